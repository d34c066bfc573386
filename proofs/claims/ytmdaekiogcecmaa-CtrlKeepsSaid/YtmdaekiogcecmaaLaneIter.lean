/-
  The walks of lane.Places: the function that hands the places out, for whatever loop body. By an AI agent.
-/
import Derived.RangeFuncNested
import Derived.RangeFuncBound
import Derived.RangeFuncCalls
import Derived.RangeFuncLeaves
import Derived.RangeFuncBox
import Derived.Shelf.Abstract
import Derived.Shelf.RegionOpen
import Derived.WalkKit
import Derived.OwnWalkIn
import Derived.TacticsInMore
import Derived.LoopNIn
import Derived.LoopIn
import Derived.Test.YtmdaekiogcecmaaLaneRef2
namespace Go.Proofs.Ytmdaekiogcecmaa
open Go.RowKit Go.Shelf
attribute [local go_sem] Oper.semAt_some
/-- What the iterator wants kept: the cells of its two boxes. -/
def Kp2 (a b : Nat) (W W' : World) : Prop := (∀ v, W.cell? ⟨a, 0, none⟩ = some v → W'.cell? ⟨a, 0, none⟩ = some v) ∧ (∀ v, W.cell? ⟨b, 0, none⟩ = some v → W'.cell? ⟨b, 0, none⟩ = some v)
theorem Kp2.t {a b : Nat} {A B C : World} (h : Kp2 a b A B) (k : Kp2 a b B C) : Kp2 a b A C := ⟨fun v hv => k.1 v (h.1 v hv), fun v hv => k.2 v (h.2 v hv)⟩
theorem Kp2.refl (a b : Nat) (W : World) : Kp2 a b W W := ⟨fun _ h => h, fun _ h => h⟩
theorem Kp2.b {a b : Nat} (W : World) (l : Nat) (o o' : Obj) (h : W.heap[l]? = some o) (hc : o.isCells = false) : Kp2 a b W (W.putObj l o') :=
  ⟨fun _ hv => cell_kept hv (grownBy_putObj' W l o') (fun r e => by cases e; exact ⟨o, h, hc⟩), fun _ hv => cell_kept hv (grownBy_putObj' W l o') (fun r e => by cases e; exact ⟨o, h, hc⟩)⟩
theorem Kp2.below {a b n : Nat} {W W' : World} (h : Below n W W') (ha : a < n) (hb : b < n) : Kp2 a b W W' :=
  ⟨fun _ hv => (h.cell (p := ⟨a, 0, none⟩) ha).trans hv, fun _ hv => (h.cell (p := ⟨b, 0, none⟩) hb).trans hv⟩
theorem Kp2.set {a b c : Nat} (W : World) (u : Value) (ha : a ≠ c) (hb : b ≠ c) : Kp2 a b W (W.setCell ⟨c, 0, none⟩ u) :=
  ⟨fun _ hv => (World.cell?_setCell_other W ⟨c, 0, none⟩ ⟨a, 0, none⟩ u (fun e => ha (by cases e; rfl))).trans hv, fun _ hv => (World.cell?_setCell_other W ⟨c, 0, none⟩ ⟨b, 0, none⟩ u (fun e => hb (by cases e; rfl))).trans hv⟩
theorem grownBy_drew (W : World) : W.grownBy W.drew none := ⟨rfl, rfl, rfl, Nat.le_refl _, fun _ _ _ => rfl⟩
theorem grownBy_drewN (W : World) (n : Nat) : W.grownBy (W.drewN n) none := ⟨rfl, rfl, rfl, Nat.le_refl _, fun _ _ _ => rfl⟩
/-- How a round ends: it goes on, or it says that it wants no more. -/
def Went (a b : Nat) (J Jx : List Nat → World → Prop) (pre : List Nat) (W : World) (t : Bool) (W' : World) : Prop := (t = true ∧ J pre W' ∧ Kp2 a b W W') ∨ (t = false ∧ Jx pre W')
set_option maxRecDepth 100000 in
set_option maxHeartbeats 1000000 in
theorem places1_in (n l B1 B2 : Nat) (hn : 1 ≤ n) (x b : Int) (hx0 : 0 ≤ x) (hx1 : x ≤ 18446744073709551615) (J Jx : List Nat → World → Prop) (W : World) (hJ : AbidesFrom W.heap.size J)
    (hY : ∀ pre (k : Nat) W1, J pre W1 → pre.length < 8 → YieldAt Fence.wide (n - 1) Try.prog l #[.int .i64 (k : Int)] W1 fun e W' =>
      (e = .returned (.bool true) ∧ J (pre ++ [k]) W' ∧ Kp2 B1 B2 W1 W') ∨ (e = .returned (.bool false) ∧ Jx (pre ++ [k]) W'))
    (h1 : W.cell? ⟨B1, 0, none⟩ = some (.int .u64 x)) (h2 : W.cell? ⟨B2, 0, none⟩ = some (.int .i64 b)) (h0 : J [] W) :
    CallsIn Fence.wide n Try.prog 31 #[.func (.yield l) #[] #[], .pointer (some ⟨B1, 0, none⟩), .pointer (some ⟨B2, 0, none⟩)] W fun e W' => (∃ v, e = .returned v) ∧
      ((∃ ys, ys = Ln.plc x b ∧ J ys W') ∨ (∃ pre, pre <+: Ln.plc x b ∧ Jx pre W')) := by
  have hf6 : Fence.wide.fn 19 := trivial
  have hmix : Try.prog.follows .mixedOrders = true := by kernel_rfl
  refine callsIn_of_wp Try.func31 rfl trivial ?_ rfl
  simp only [Try.ntmps31, List.size_toArray, List.length_cons, List.length_nil, Nat.reduceAdd, Nat.reduceSub, Array.replicate_succ, Array.replicate_zero, List.push_toArray, List.append_toArray, List.nil_append, List.cons_append]
  gi_wp2
  gi_loopw [5] (fun i wr => ∃ k : Nat, k ≤ 8 ∧ i = .int .i64 k ∧ J (Ln.plcTo x b k) wr ∧ wr.cell? ⟨B1, 0, none⟩ = some (.int .u64 x) ∧ wr.cell? ⟨B2, 0, none⟩ = some (.int .i64 b))
    (fun i _ => 8 - (intOf i).toNat)
  case atStart => exact ⟨0, by omega, rfl, h0, h1, h2⟩
  case round =>
    obtain ⟨k, hk, rfl, hj, c1, c2⟩ := hrel
    by_cases hlt : k < 8
    · by_cases hit : Ln.byt x k = b
      · have hit' : (Ln.byt x k == b) = true := by simp [hit]
        have hj' : J (Ln.plcTo x b k) wr.drew := hJ _ wr wr.drew none hj (grownBy_drew wr) (fun r e => by cases e)
        have hpl := Ln.plcTo_len x b k
        obtain ⟨fn, tmps, assign, body, hy, hR0⟩ := hY _ k wr.drew hj' (by omega)
        have hR := hR0.mono (R' := fun e W' => ∃ t, e = .returned (.bool t) ∧ Went B1 B2 J Jx (Ln.plcTo x b k ++ [k]) wr.drew t W') (by
          rintro e W' (⟨rfl, a1, a2⟩ | ⟨rfl, a1⟩)
          · exact ⟨true, rfl, .inl ⟨rfl, a1, a2⟩⟩
          · exact ⟨false, rfl, .inr ⟨rfl, a1⟩⟩)
        clear hR0 hj hj'
        have HY := Lib.hid hY; clear hY
        have HJ := Lib.hid hJ; clear hJ
        have Hit := Lib.hid hit; clear hit
        gi_wp2
        gi_region_with_o (first | (gi_at_call 19; refine (callsIn_wide.2 (byte_any _ _ _ hx0 hx1)).mono ?_; rintro e w' ⟨rfl, rfl⟩) | (refine hR.mono ?_; rintro e W3 ⟨t, rfl, hw⟩))
        all_goals rcases hw with ⟨rfl, hj3, hk3⟩ | ⟨rfl, hx3⟩
        all_goals gi_wp2
        all_goals first
          | (refine bodyPost_ret (results_none rfl _ _ _) rfl ?_
             refine ⟨⟨_, rfl⟩, .inr ⟨Ln.plcTo x b k ++ [k], ?_, hx3⟩⟩
             rw [← Ln.plcTo_hit Hit.out]; exact Ln.plcTo_pre (by omega))
          | (go_roundw
             case rel => exact ⟨k + 1, by omega, by go_num, by rw [Ln.plcTo_hit Hit.out]; exact hj3, hk3.1 _ c1, hk3.2 _ c2⟩
             case measure => simp [intOf]; omega)
      · have hit' : (Ln.byt x k == b) = false := by simp [hit]
        have HY := Lib.hid hY; clear hY
        have HJ := Lib.hid hJ; clear hJ
        have Hit := Lib.hid hit; clear hit
        gi_wp2
        refine wpIn_wide.2 ?_
        go_quiet ((go_at_call 19; exact Calls.quiet_of_same ((byte_any _ _ _ hx0 hx1).mono (fun _ _ h => ⟨h.1, h.2.symm⟩))))
        have hj' : J (Ln.plcTo x b k) (wr.drewN nq) := HJ.out _ wr _ none hj (grownBy_drewN wr nq) (fun r e => by cases e)
        all_goals gi_wp2
        all_goals
          go_roundw
          case rel => exact ⟨k + 1, by omega, by go_num, by rw [Ln.plcTo_miss Hit.out]; exact hj', c1, c2⟩
          case measure => simp [intOf]; omega
    · obtain rfl : k = 8 := by omega
      gi_wp2
      go_end0
      exact ⟨⟨_, rfl⟩, .inl ⟨_, rfl, hj⟩⟩
set_option maxHeartbeats 1000000 in
/-- lane.Places: both arguments are boxed; the function value holds the boxes. -/
theorem places_call (n : Nat) (x b : Int) (w : World) :
    CallsIn Fence.wide n Try.prog 29 #[.int .u64 x, .int .i64 b] w fun e w' => e = .returned (.func (.func 31) #[] #[.pointer (some ⟨w.heap.size, 0, none⟩), .pointer (some ⟨w.heap.size + 1, 0, none⟩)]) ∧ (w.alloc (.cells #[.int .u64 x] 22)).alloc (.cells #[.int .i64 b] 3) = w' := by
  refine callsIn_of_wp Try.func29 rfl trivial ?_ rfl
  simp only [Try.ntmps29, List.size_toArray, List.length_cons, List.length_nil, Nat.reduceAdd, Nat.reduceSub, Array.replicate_succ, Array.replicate_zero, List.push_toArray, List.append_toArray, List.nil_append, List.cons_append]
  gi_wp2
  go_ret
  exact ⟨rfl, rfl⟩
/-- The iterator's contract. -/
theorem places_stops (n : Nat) (hn : 1 ≤ n) (x b : Int) (hx0 : 0 ≤ x) (hx1 : x ≤ 18446744073709551615) (B1 B2 : Nat) (w : World) (l1 : B1 < w.heap.size) (l2 : B2 < w.heap.size) (h1 : w.cell? ⟨B1, 0, none⟩ = some (.int .u64 x)) (h2 : w.cell? ⟨B2, 0, none⟩ = some (.int .i64 b)) :
    SeqStopsK Fence.wide n Try.prog 31 #[.pointer (some ⟨B1, 0, none⟩), .pointer (some ⟨B2, 0, none⟩)] (fun k : Nat => #[Value.int .i64 (k : Int)]) (Kp2 B1 B2) (fun ys => ys = Ln.plc x b) (fun pre => pre <+: Ln.plc x b) 8 w := fun l J Jx W hW hJ _ hY h0 =>
  places1_in n l B1 B2 hn x b hx0 hx1 J Jx W hJ hY ((hW.cell (p := ⟨B1, 0, none⟩) l1).trans h1) ((hW.cell (p := ⟨B2, 0, none⟩) l2).trans h2) h0
end Go.Proofs.Ytmdaekiogcecmaa
