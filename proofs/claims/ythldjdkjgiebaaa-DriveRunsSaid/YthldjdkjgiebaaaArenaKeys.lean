/-
  The walks of maps.Keys over a map by words, of slices.AppendSeq and slices.Collect: the keys come once each, in some order, into a new row. By an AI agent.
-/
import Derived.Test.YthldjdkjgiebaaaArenaOps
import Derived.Sort.MapsRangeIn
import Derived.RangeFuncNested
import Derived.RangeFuncBound
import Derived.RangeFuncCalls
import Derived.RangeFuncLeaves
import Derived.RangeFuncBox
import Derived.RangeFuncStops
import Derived.Maps.OwnIn
import Derived.Shelf.Abstract
import Derived.Shelf.AbstractIn
import Derived.Shelf.RegionOpen
import Derived.WalkKit
import Derived.OwnWalkIn
import Derived.TacticsInMore
import Derived.LoopNIn
import Derived.LoopIn
import Derived.OpenShut
set_option linter.unusedSimpArgs false
namespace Go.Proofs.Ythldjdkjgiebaaa
open Go.RowKit Go.Shelf Go.Maps
open Mm (Mem Blk)
attribute [local go_sem] Oper.semAt_some
/-- The keys that have come so far. -/
def Came (D : DataW Value) (left : Lit → Bool) (ss : List Nat) : Prop := ss.Nodup ∧ ∀ x : Nat, x ∈ ss ↔ (Maps.has D (ky x) = true ∧ left (ky x) = false)
theorem Came.start (D : DataW Value) : Came D (Maps.has D) [] := ⟨List.nodup_nil, fun x => by cases Maps.has D (ky x) <;> simp⟩
theorem ky_key (n : Nat) : WideAt.IsKeyLit (ky n) := trivial
theorem ky_same {a b : Nat} : (ky a).sameKey (ky b) = decide (a = b) := by
  by_cases h : a = b
  · subst h; simp [WideAt.sameKey_self (ky_key a)]
  · simp only [h, decide_false]
    cases e : (ky a).sameKey (ky b)
    · rfl
    · have := WideAt.sameKey_eq e
      unfold ky at this
      injection this with _ h2
      omega
theorem Came.step {D : DataW Value} {left : Lit → Bool} {ss : List Nat} {x : Nat} (h : Came D left ss) (hl : left (ky x) = true) (hh : Maps.has D (ky x) = true) : Came D (fun z => left z && !z.sameKey (ky x)) (ss ++ [x]) := by
  have hx : x ∉ ss := fun e => by have := ((h.2 x).1 e).2; rw [hl] at this; cases this
  refine ⟨List.nodup_append.2 ⟨h.1, by simp, fun a ha b hb => by simp at hb; subst hb; exact fun e => hx (e ▸ ha)⟩, fun z => ?_⟩
  simp only [List.mem_append, List.mem_singleton, ky_same]
  by_cases e : z = x
  · subst e; simp [hh]
  · simp [e, h.2 z]
/-- A key's value. -/
theorem key_inv {key : Value} {kl : Lit} (h : keyOf Try.prog 35 key = some kl) : ∃ x : Nat, key = .int .u64 (x : Int) ∧ kl = ky x := by
  have hu : Try.prog.underlying 35 = some (.int .u64) := Try.underlying35
  cases key <;> simp [keyOf, hu, mapKey] at h
  obtain ⟨⟨rfl, hw⟩, rfl⟩ := h
  have hb := bounds_u64 hw
  obtain ⟨n, rfl⟩ := Int.eq_ofNat_of_zero_le hb.1
  exact ⟨n, rfl, rfl⟩
/-- The keys of a map, once each. -/
def Keyz (D : DataW Value) (ss : List Nat) : Prop := ss.Nodup ∧ ∀ x : Nat, x ∈ ss ↔ Maps.has D (ky x) = true
def ku (x : Nat) : Value := .int .u64 (x : Int)
set_option maxRecDepth 100000 in
set_option maxHeartbeats 2000000 in
theorem keys1_in (n y b1 m nn : Nat) (hn : 1 ≤ n) (D0 : DataW Value) (J Jx : List Nat → World → Prop) (W : World) (hJ : AbidesFrom W.heap.size J)
    (hY : ∀ pre (x : Nat) W1, J pre W1 → pre.length < Maps.size D0 → YieldAt Fence.wide (n - 1) Try.prog y #[.int .u64 (x : Int)] W1 fun e W' =>
      (e = .returned (.bool true) ∧ J (pre ++ [x]) W' ∧ KeepsWalks W1 W') ∨ (e = .returned (.bool false) ∧ Jx (pre ++ [x]) W'))
    (h1 : W.cell? ⟨b1, 0, none⟩ = some (.map (some m))) (hown : W.ownsMap Try.prog 35 hv m nn D0) (h0 : J [] W) :
    CallsIn Fence.wide n Try.prog 41 #[.func (.yield y) #[] #[], .pointer (some ⟨b1, 0, none⟩)] W fun e W' => (∃ v, e = .returned v) ∧
      ((∃ ss, Keyz D0 ss ∧ J ss W') ∨ (∃ pre : List Nat, True ∧ Jx pre W')) := by
  refine callsIn_of_wp Try.func41 rfl trivial ?_ rfl
  simp only [Try.ntmps41, List.size_toArray, List.length_cons, List.length_nil, Nat.reduceAdd, Nat.reduceSub, Array.replicate_succ, Array.replicate_zero, List.push_toArray, List.append_toArray, List.nil_append, List.cons_append]
  gi_wp2_with (first
    | (gi_at_range; refine wpListIn_range_own _ rfl _ 64 rfl 35 27 law Try.underlying64 _ m nn _ rfl hown ?_; intro w0 hrg0 hg0 hs0)
    | gi_in)
  go_frame
  gi_loopw [3] (fun _ wr => ∃ (left : Lit → Bool) (cnt : Nat) (ss : List Nat), wr.ranges Try.prog 35 hv m W.heap.size nn D0 left cnt ∧ ss.length + cnt ≤ Maps.size D0 ∧ Came D0 left ss ∧ J ss wr)
    (fun _ wr => wr.rangeLeft m W.heap.size)
  case atStart =>
    exact ⟨_, _, [], hrg0, by simp, Came.start D0, hJ [] W w0 none h0 hg0 (fun r e => by cases e)⟩
  case round =>
    obtain ⟨left, cnt, ss, hrg, hcs, hC, hJs⟩ := hrel
    gi_wp2_with (first
      | (gi_at_next; refine wpListIn_next_ranges _ rfl _ rfl 35 law hv (fun x : Nat => Value.int .u64 (x : Int)) id (fun key kl hk => by obtain ⟨x, hx, _⟩ := key_inv hk; exact ⟨x, hx⟩) (fun v _ _ => ⟨v, rfl⟩) m W.heap.size nn _ _ _ rfl hrg ?_ ?_)
      | gi_in)
    · intro hc0 hl0
      gi_wp2
      go_end0
      exact ⟨⟨_, rfl⟩, .inl ⟨ss, ⟨hC.1, fun x => by rw [hC.2 x, hl0]; simp⟩, hJs⟩⟩
    · intro x c kl yd yp w2 cnt2 hkey hlk hv2 hat hrg2 hlt hg2 hs2 hen
      obtain ⟨x', ex, rfl⟩ := key_inv hkey
      obtain rfl : x = x' := by
        have ex' : Value.int .u64 (x : Int) = Value.int .u64 (x' : Int) := ex
        injection ex' with _ e2
        omega
      have hJ2 : J ss w2 := hJ ss wr w2 (some W.heap.size) hJs hg2 (fun r e => by cases e; exact ⟨Nat.le_refl _, hrg.iter_walk⟩)
      obtain ⟨fn, tmps, assign, body, hy, hR⟩ := hY ss x w2 hJ2 (by omega)
      have hC2 := hC.step hlk (Maps.has_true_of_atKey hat)
      have HC2 := Lib.hid hC2; clear hC2
      clear hs2 ex
      gi_wp2
      refine hR.mono ?_
      rintro e W3 (⟨rfl, hJ3, hk3⟩ | ⟨rfl, hJx3⟩)
      · gi_wp2
        have hrg3 := hrg2.of_walks hk3
        go_roundw
        case rel => exact ⟨_, cnt2, ss ++ [x], hrg3, by simp; omega, HC2.out, hJ3⟩
        case measure => rw [hrg3.left_eq, hrg.left_eq]; exact hlt
      · gi_wp2
        refine bodyPost_ret (results_none rfl _ _ _) rfl ?_
        exact ⟨⟨_, rfl⟩, .inr ⟨ss ++ [x], trivial, hJx3⟩⟩
/-- The iterator's contract. -/
theorem keys_stops (n : Nat) (hn : 1 ≤ n) (b1 m nn : Nat) (D0 : DataW Value) (w : World) (h1 : w.cell? ⟨b1, 0, none⟩ = some (.map (some m))) (hown : w.ownsMap Try.prog 35 hv m nn D0) :
    SeqStopsK Fence.wide n Try.prog 41 #[.pointer (some ⟨b1, 0, none⟩)] (fun x : Nat => #[Value.int .u64 (x : Int)]) KeepsWalks (Keyz D0) (fun _ => True) (Maps.size D0) w := fun y J Jx W hW hJ _ hY h0 =>
  keys1_in n y b1 m nn hn D0 J Jx W hJ hY ((hW.cell (p := ⟨b1, 0, none⟩) (World.block_lt_of_cell? _ _ h1)).trans h1) (map_keep hown (hW.block m hown.lt)) h0
end Go.Proofs.Ythldjdkjgiebaaa
