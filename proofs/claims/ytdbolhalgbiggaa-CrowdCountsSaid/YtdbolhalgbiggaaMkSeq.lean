/-
  The walk of what Steps hands out, for whatever loop body. By an AI agent.
-/
import Derived.Test.YtdbolhalgbiggaaMkGoOn
import Derived.RangeFuncNested
import Derived.RangeFuncBound
import Derived.RangeFuncCalls
import Derived.RangeFuncLeaves
import Derived.RangeFuncBox
import Derived.RangeFuncStops
import Derived.Shelf.Abstract
import Derived.Shelf.AbstractIn
import Derived.Shelf.RegionOpen
import Derived.OwnWalkIn
import Derived.TacticsInMore
import Derived.LoopNIn
import Derived.LoopIn
import Derived.OpenShut
set_option linter.unusedSimpArgs false
set_option linter.unusedVariables false
namespace Go.Proofs.Ytdbolhalgbiggaa
open Go.RowKit Go.Shelf Go.Maps
open Mm (Mem Blk)
open Ac (A)
attribute [local go_sem] Oper.semAt_some
set_option maxRecDepth 100000 in
set_option maxHeartbeats 4000000 in
theorem steps1_in (n y b1 b2 : Nat) (hn : 3 ≤ n) (pv rr : Value) (M : Nat) (xs : Nat → A) (vs : Nat → Int) (J J' Jx : Nat → World → Prop) (Jd : World → Prop) (mu : World → Nat)
    (hmu : ∀ k W, J k W → k ≤ M ∧ mu W = M - k)
    (hG : ∀ k W, J k W → W.cell? ⟨b1, 0, none⟩ = some pv ∧ W.cell? ⟨b2, 0, none⟩ = some rr ∧
      ((k < M ∧ Calls Try.prog 42 #[pv, rr] W fun e W2 => e = .returned (.tuple #[av (xs k), .int .u64 (vs k), .bool true]) ∧ J' k (boxed W2 (xs k))) ∨
       (k = M ∧ Calls Try.prog 42 #[pv, rr] W fun e W2 => e = .returned (.tuple #[av ⟨0, 0, 0, 0, 0⟩, .int .u64 0, .bool false]) ∧ Jd (W2.alloc (.cells #[.int .i64 0, .int .u64 0, .int .i64 0, .int .u64 0, .int .u64 0] 30)))))
    (hY : ∀ k W, J' k W → k < M → YieldAt Fence.wide (n - 1) Try.prog y #[av (xs k), .int .u64 (vs k)] W fun e W' => (e = .returned (.bool true) ∧ J (k + 1) W') ∨ (e = .returned (.bool false) ∧ Jx (k + 1) W'))
    (W : World) (h0 : J 0 W) :
    CallsIn Fence.wide n Try.prog 41 #[.func (.yield y) #[] #[], .pointer (some ⟨b1, 0, none⟩), .pointer (some ⟨b2, 0, none⟩)] W fun e W' => (∃ v, e = .returned v) ∧ (Jd W' ∨ ∃ k, Jx k W') := by
  have hf6 : Fence.wide.fn 42 := trivial
  have g1 : 1 ≤ n := by omega
  have HMU := Lib.hid hmu; clear hmu
  have HG := Lib.hid hG; clear hG
  have HY := Lib.hid hY; clear hY
  refine callsIn_of_wp Try.func41 rfl trivial ?_ rfl
  simp only [Try.ntmps41, List.size_toArray, List.length_cons, List.length_nil, Nat.reduceAdd, Nat.reduceSub, Array.replicate_succ, Array.replicate_zero, List.push_toArray, List.append_toArray, List.nil_append, List.cons_append]
  gi_wp2_with fail
  gi_loopw [4, 5, 6] (fun _ _ _ wr => ∃ k : Nat, J k wr) (fun _ _ _ wr => mu wr)
  case atStart => exact ⟨0, h0⟩
  case round =>
    obtain ⟨k, hj⟩ := hrel
    obtain ⟨hkM, hmuk⟩ := HMU.out k wr hj
    obtain ⟨c1, c2, hg⟩ := HG.out k wr hj
    rcases hg with ⟨hlt, hg⟩ | ⟨rfl, hg⟩
    · have KG := Lib.hid hg; clear hg
      gi_wp2_with (gi_at_call 42; refine (callsIn_wide.2 KG.out).mono ?_; rintro e W2 ⟨rfl, hj2⟩; obtain ⟨fn, tmps, assign, body, hy, hR0⟩ := HY.out k _ hj2 hlt)
      refine hR0.mono ?_
      rintro e W3 (⟨rfl, hj3⟩ | ⟨rfl, hx3⟩)
      · obtain ⟨hk3, hm3⟩ := HMU.out _ _ hj3
        gi_wp2
        go_roundw
        case rel => exact ⟨k + 1, hj3⟩
        case measure => rw [hmuk, hm3]; omega
      · gi_wp2
        refine bodyPost_ret (results_none rfl _ _ _) rfl ?_
        exact ⟨⟨_, rfl⟩, .inr ⟨k + 1, hx3⟩⟩
    · have KG := Lib.hid hg; clear hg
      gi_wp2_with (gi_at_call 42; refine (callsIn_wide.2 KG.out).mono ?_; rintro e W2 ⟨rfl, hj2⟩)
      refine ⟨(fun f e => nomatch e), ?_⟩
      gi_wp2
      refine bodyPost_ret (results_none rfl _ _ _) rfl ?_
      exact ⟨⟨_, rfl⟩, .inl hj2⟩
set_option maxHeartbeats 1000000 in
/-- Steps: the arena and the routine are boxed; the function value holds the boxes. -/
theorem steps_call (n : Nat) (pv rr : Value) (hp : pv.oneCell' = true) (hr : rr.oneCell' = true) (w : World) :
    CallsIn Fence.wide n Try.prog 31 #[pv, rr] w fun e w' => e = .returned (.func (.func 41) #[] #[.pointer (some ⟨w.heap.size, 0, none⟩), .pointer (some ⟨w.heap.size + 1, 0, none⟩)]) ∧ (w.alloc (.cells #[pv] 44)).alloc (.cells #[rr] 62) = w' := by
  refine callsIn_of_wp Try.func31 rfl trivial ?_ rfl
  simp only [Try.ntmps31, List.size_toArray, List.length_cons, List.length_nil, Nat.reduceAdd, Nat.reduceSub, Array.replicate_succ, Array.replicate_zero, List.push_toArray, List.append_toArray, List.nil_append, List.cons_append]
  gi_wp2
  go_ret
  exact ⟨rfl, rfl⟩
end Go.Proofs.Ytdbolhalgbiggaa
