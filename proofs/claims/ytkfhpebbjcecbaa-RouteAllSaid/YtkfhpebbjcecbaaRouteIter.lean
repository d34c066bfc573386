/-
  The walks of route.All: the function that hands the groups out, for whatever loop body. By an AI agent.
-/
import Derived.RangeFuncNested
import Derived.RangeFuncBound
import Derived.RangeFuncCalls
import Derived.RangeFuncLeaves
import Derived.RangeFuncBox
import Derived.Shelf.Abstract
import Derived.Shelf.RegionOpen
import Derived.WalkKit
import Derived.OwnWalkIn
import Derived.TacticsInMore
import Derived.LoopNIn
import Derived.LoopIn
import Derived.Test.YtkfhpebbjcecbaaRouteParts
namespace Go.Proofs.Ytkfhpebbjcecbaa
open Go.RowKit Go.Shelf
attribute [local go_sem] Oper.semAt_some
/-- What the iterator wants kept: the cells of its two boxes. -/
def Kp2 (a b : Nat) (W W' : World) : Prop := (∀ v, W.cell? ⟨a, 0, none⟩ = some v → W'.cell? ⟨a, 0, none⟩ = some v) ∧ (∀ v, W.cell? ⟨b, 0, none⟩ = some v → W'.cell? ⟨b, 0, none⟩ = some v)
theorem Kp2.t {a b : Nat} {A B C : World} (h : Kp2 a b A B) (k : Kp2 a b B C) : Kp2 a b A C := ⟨fun v hv => k.1 v (h.1 v hv), fun v hv => k.2 v (h.2 v hv)⟩
theorem Kp2.refl (a b : Nat) (W : World) : Kp2 a b W W := ⟨fun _ h => h, fun _ h => h⟩
theorem Kp2.b {a b : Nat} (W : World) (l : Nat) (o o' : Obj) (h : W.heap[l]? = some o) (hc : o.isCells = false) : Kp2 a b W (W.putObj l o') :=
  ⟨fun _ hv => cell_kept hv (grownBy_putObj' W l o') (fun r e => by cases e; exact ⟨o, h, hc⟩), fun _ hv => cell_kept hv (grownBy_putObj' W l o') (fun r e => by cases e; exact ⟨o, h, hc⟩)⟩
theorem Kp2.below {a b n : Nat} {W W' : World} (h : Below n W W') (ha : a < n) (hb : b < n) : Kp2 a b W W' :=
  ⟨fun _ hv => (h.cell (p := ⟨a, 0, none⟩) ha).trans hv, fun _ hv => (h.cell (p := ⟨b, 0, none⟩) hb).trans hv⟩
theorem Kp2.set {a b c : Nat} (W : World) (u : Value) (ha : a ≠ c) (hb : b ≠ c) : Kp2 a b W (W.setCell ⟨c, 0, none⟩ u) :=
  ⟨fun _ hv => (World.cell?_setCell_other W ⟨c, 0, none⟩ ⟨a, 0, none⟩ u (fun e => ha (by cases e; rfl))).trans hv, fun _ hv => (World.cell?_setCell_other W ⟨c, 0, none⟩ ⟨b, 0, none⟩ u (fun e => hb (by cases e; rfl))).trans hv⟩
theorem grownBy_drew (W : World) : W.grownBy W.drew none := ⟨rfl, rfl, rfl, Nat.le_refl _, fun _ _ _ => rfl⟩
theorem grownBy_drewN (W : World) (n : Nat) : W.grownBy (W.drewN n) none := ⟨rfl, rfl, rfl, Nat.le_refl _, fun _ _ _ => rfl⟩
/-- How a round ends: it goes on, or it says that it wants no more. -/
def Went (a b : Nat) (J Jx : List Nat → World → Prop) (pre : List Nat) (W : World) (t : Bool) (W' : World) : Prop := (t = true ∧ J pre W' ∧ Kp2 a b W W') ∨ (t = false ∧ Jx pre W')
theorem sum_pred (s k : Nat) : s + Rt.tri (k - 1) + k = s + Rt.tri k := by
  cases k with
  | zero => rfl
  | succ k => simp only [Nat.add_sub_cancel, Rt.tri]; omega
set_option maxRecDepth 100000 in
set_option maxHeartbeats 1000000 in
theorem all1_in (n l B1 B2 : Nat) (hn : 1 ≤ n) (log : Int) (h : Nat) (hh : h ≤ 18446744073709551615) (J Jx : List Nat → World → Prop) (W : World) (hJ : AbidesFrom W.heap.size J)
    (hY : ∀ pre (k : Nat) W1, J pre W1 → pre.length < 512 → YieldAt Fence.wide (n - 1) Try.prog l #[.int .i64 (k : Int)] W1 fun e W' =>
      (e = .returned (.bool true) ∧ J (pre ++ [k]) W' ∧ Kp2 B1 B2 W1 W') ∨ (e = .returned (.bool false) ∧ Jx (pre ++ [k]) W'))
    (h1 : W.cell? ⟨B1, 0, none⟩ = some (.int .i64 log)) (h2 : W.cell? ⟨B2, 0, none⟩ = some (.int .u64 (h : Int))) (h0 : J [] W) :
    CallsIn Fence.wide n Try.prog 15 #[.func (.yield l) #[] #[], .pointer (some ⟨B1, 0, none⟩), .pointer (some ⟨B2, 0, none⟩)] W fun e W' => (∃ v, e = .returned v) ∧
      ((∃ ys, ys = Rt.way (h / 128) (Rt.grp log) ∧ J ys W') ∨ (∃ pre, pre <+: Rt.way (h / 128) (Rt.grp log) ∧ Jx pre W')) := by
  have hf5 : Fence.wide.fn 5 := trivial
  have hf16 : Fence.wide.fn 16 := trivial
  have hmix : Try.prog.follows .mixedOrders = true := by kernel_rfl
  have hg := Rt.grp_le log
  unfold Rt.way
  obtain ⟨m, hm⟩ : ∃ m, m = Rt.grp log := ⟨_, rfl⟩
  rw [← hm] at hg ⊢
  have Hm := Lib.hid hm; clear hm
  obtain ⟨s, hs⟩ : ∃ s, s = h / 128 := ⟨_, rfl⟩
  have hsI : (h : Int) / 128 = (s : Int) := by omega
  rw [← hs]
  have hs1 : s ≤ 144115188075855872 := by omega
  have HsI := Lib.hid hsI; clear hsI hs
  refine callsIn_of_wp Try.func15 rfl trivial ?_ rfl
  simp only [Try.ntmps15, List.size_toArray, List.length_cons, List.length_nil, Nat.reduceAdd, Nat.reduceSub, Array.replicate_succ, Array.replicate_zero, List.push_toArray, List.append_toArray, List.nil_append, List.cons_append]
  gi_wp2_with (first | (gi_at_call 5; refine (callsIn_wide.2 (groups_any _ _)).mono ?_; rintro e w' ⟨rfl, rfl⟩; rw [← Hm.out]) | (gi_at_call 16; refine (callsIn_wide.2 (start_any _ _)).mono ?_; rintro e w' ⟨rfl, rfl⟩; rw [HsI.out]))
  gi_loopw [5, 6, 13] (fun a _ i wr => ∃ k : Nat, k ≤ m ∧ i = .int .u64 (k : Int) ∧ a = .int .u64 ((s + Rt.tri (k - 1) : Nat) : Int) ∧ J (Rt.wayTo s m k) wr ∧ wr.cell? ⟨B1, 0, none⟩ = some (.int .i64 log) ∧ wr.cell? ⟨B2, 0, none⟩ = some (.int .u64 (h : Int)))
    (fun _ _ i _ => m - (intOf i).toNat)
  case atStart => exact ⟨0, by omega, rfl, rfl, h0, h1, h2⟩
  case round =>
    obtain ⟨k, hk, rfl, rfl, hj, c1, c2⟩ := hrel
    by_cases hlt : k < m
    · have hsp := sum_pred s k
      have hgd : Rt.gat s m k = (s + Rt.tri k) % m := rfl
      have htk := Rt.tri_le (i := k) (by omega)
      have hglt := Rt.gat_lt (s := s) (n := m) (i := k) (by omega)
      have hwl := Rt.wayTo_len s m k
      obtain ⟨fn, tmps, assign, body, hy, hR0⟩ := hY _ (Rt.gat s m k) wr hj (by omega)
      have hR := hR0.mono (R' := fun e W' => ∃ t, e = .returned (.bool t) ∧ Went B1 B2 J Jx (Rt.wayTo s m k ++ [Rt.gat s m k]) wr t W') (by
        rintro e W' (⟨rfl, a1, a2⟩ | ⟨rfl, a1⟩)
        · exact ⟨true, rfl, .inl ⟨rfl, a1, a2⟩⟩
        · exact ⟨false, rfl, .inr ⟨rfl, a1⟩⟩)
      clear hR0 hj
      have HY := Lib.hid hY; clear hY
      have HJ := Lib.hid hJ; clear hJ
      have Hwl := Lib.hid hwl; clear hwl
      generalize hat : s + Rt.tri (k - 1) = a0 at hsp ⊢
      generalize hbt : s + Rt.tri k = b0 at hsp hgd
      have hb0 : b0 ≤ 144115188076000000 := by omega
      have e1 : IntKind.u64.wrap ((a0 : Int) + (k : Int)) = (b0 : Int) := by rw [u64_wrap_small (by omega) (by omega)]; omega
      have e2 : wrap64 ((b0 : Int).tmod (m : Int)) = ((Rt.gat s m k : Nat) : Int) := by
        rw [Int.tmod_eq_emod_of_nonneg (by omega), wrap64_small (by omega) (by omega), hgd]; omega
      have E1 := Lib.hid e1
      have E2 := Lib.hid e2
      clear e1 e2 hsp hgd hat
      gi_wp2_with fail
      rw [E1.out, E2.out]
      rw [hy]
      refine ⟨fun _ => hn, hR.mono ?_⟩
      rintro e W3 ⟨t, rfl, hw⟩
      rcases hw with ⟨rfl, hj3, hk3⟩ | ⟨rfl, hx3⟩
      all_goals gi_wp2
      · go_roundw
        case rel => exact ⟨k + 1, by omega, by go_num, by rw [← hbt]; rfl, by rw [Rt.wayTo_snoc]; exact hj3, hk3.1 _ c1, hk3.2 _ c2⟩
        case measure => simp [intOf]; omega
      · refine bodyPost_ret (results_none rfl _ _ _) rfl ?_
        exact ⟨⟨_, rfl⟩, .inr ⟨_, by rw [← Rt.wayTo_snoc]; exact Rt.wayTo_pre (by omega), hx3⟩⟩
    · obtain rfl : k = m := by omega
      gi_wp2
      go_end0
      exact ⟨⟨_, rfl⟩, .inl ⟨_, rfl, hj⟩⟩
set_option maxHeartbeats 1000000 in
/-- route.All: both arguments are boxed; the function value holds the boxes. -/
theorem all_call (n : Nat) (h log : Int) (w : World) :
    CallsIn Fence.wide n Try.prog 13 #[.int .u64 h, .int .i64 log] w fun e w' => e = .returned (.func (.func 15) #[] #[.pointer (some ⟨w.heap.size + 1, 0, none⟩), .pointer (some ⟨w.heap.size, 0, none⟩)]) ∧ (w.alloc (.cells #[.int .u64 h] 22)).alloc (.cells #[.int .i64 log] 3) = w' := by
  refine callsIn_of_wp Try.func13 rfl trivial ?_ rfl
  simp only [Try.ntmps13, List.size_toArray, List.length_cons, List.length_nil, Nat.reduceAdd, Nat.reduceSub, Array.replicate_succ, Array.replicate_zero, List.push_toArray, List.append_toArray, List.nil_append, List.cons_append]
  gi_wp2
  go_ret
  exact ⟨rfl, rfl⟩
/-- The iterator's contract. -/
theorem all_stops (n : Nat) (hn : 1 ≤ n) (log : Int) (h : Nat) (hh : h ≤ 18446744073709551615) (B1 B2 : Nat) (w : World) (l1 : B1 < w.heap.size) (l2 : B2 < w.heap.size) (h1 : w.cell? ⟨B1, 0, none⟩ = some (.int .i64 log)) (h2 : w.cell? ⟨B2, 0, none⟩ = some (.int .u64 (h : Int))) :
    SeqStopsK Fence.wide n Try.prog 15 #[.pointer (some ⟨B1, 0, none⟩), .pointer (some ⟨B2, 0, none⟩)] (fun k : Nat => #[Value.int .i64 (k : Int)]) (Kp2 B1 B2) (fun ys => ys = Rt.way (h / 128) (Rt.grp log)) (fun pre => pre <+: Rt.way (h / 128) (Rt.grp log)) 512 w := fun l J Jx W hW hJ _ hY h0 =>
  all1_in n l B1 B2 hn log h hh J Jx W hJ hY ((hW.cell (p := ⟨B1, 0, none⟩) l1).trans h1) ((hW.cell (p := ⟨B2, 0, none⟩) l2).trans h2) h0
end Go.Proofs.Ytkfhpebbjcecbaa
