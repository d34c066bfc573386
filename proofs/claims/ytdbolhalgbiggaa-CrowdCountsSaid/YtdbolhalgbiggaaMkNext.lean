/-
  The walks of next and take: a maker that is asked, and told. By an AI agent.
-/
import Derived.Test.YtdbolhalgbiggaaMkTake2
import Derived.RangeFuncRecord
import Derived.Handy
import Derived.Defers
import Derived.Recover
set_option linter.unusedSimpArgs false
set_option linter.unusedVariables false
namespace Go.Proofs.Ytdbolhalgbiggaa
open Go.RowKit Go.Maps
open Mm (Mem Blk)
open Ac (A)
theorem catch_next (p q : Addr) (w : World) :
    CallsD Try.prog 43 #[.pointer (some p), .pointer (some q)] .returning w fun e u' w' => e = .returned (.tuple #[]) ∧ u' = .returning ∧ w' = w := by
  refine callsD_of_wpS Try.func43 rfl fun c₀ cs hu => ?_
  apply wpS_seq
  apply wpS_region
  simp [wpOpsS, go_sem, recoverD, hu, Try.ntmps43, Exit.thenS]
  refine wpS_cond (t := false) (by simp [Act.eval, Array.replicate]) ?_
  simp only [Bool.false_eq_true, if_false]
  refine wpS_of_wp (wp_skip ?_)
  cases c₀
  simp_all [bodyPostS, results, Try.results43]
theorem catch_take (w : World) :
    CallsD Try.prog 48 #[] .returning w fun e u' w' => e = .returned (.tuple #[]) ∧ u' = .returning ∧ w' = w := by
  refine callsD_of_wpS Try.func48 rfl fun c₀ cs hu => ?_
  apply wpS_region
  simp [wpOpsS, go_sem, recoverD, hu, Try.ntmps48, Exit.thenS]
  cases c₀
  simp_all [bodyPostS, results, Try.results48]
/-- The value of a maker. -/
abbrev rv (q : Nat) : Value := .iface 27 (.pointer (some ⟨q, 0, none⟩))
set_option maxRecDepth 100000 in
set_option maxHeartbeats 4000000 in
theorem next_some (q : Nat) (x : A) (t : Bool) (w : World) (K : ∀ w1, Below w.heap.size w w1 → Calls Try.prog 10 #[.pointer (some ⟨q, 0, none⟩)] w1 (Gives (.tuple #[av x, .bool t]) w1)) :
    Calls Try.prog 32 #[rv q] w (Gives (.tuple #[av x, .bool t]) w) := by
  have hmf : ∀ (fn : Fn) (first cap : Array Value) (w : World), (Instr.makeFunc fn first cap).run Try.prog w = .ok (.func fn first cap) w := fun _ _ _ _ => rfl
  have hnil : ∀ w : World, (binOp BinOp.eql 62 (rv q) .nilIface).run Try.prog w = .ok (.bool false) w := fun _ => by kernel_rfl
  obtain ⟨xk, xb, xc, xo, xn⟩ := x
  have HK := Lib.hid K; clear K
  go_enter_defers Try.func32, Try.ntmps32
  go_wp2_with fail
  obtain ⟨W, hW⟩ : ∃ W, W = (w.alloc (.cells #[.int .i64 0, .int .u64 0, .int .i64 0, .int .u64 0, .int .u64 0] 30)).alloc (.cells #[.bool false] 4) := ⟨_, rfl⟩
  have hb : Below w.heap.size w W := by rw [hW]; exact ((Below.refl _ w).alloc (Nat.le_refl _) _).alloc (by simp) _
  have k0 : W.heap[w.heap.size]? = some (.cells #[.int .i64 0, .int .u64 0, .int .i64 0, .int .u64 0, .int .u64 0] 30 (0, 0)) := by rw [hW, Below.heap_alloc _ _ _ (by simp)]; exact World.alloc_heap_new w _
  have k1 : W.heap[w.heap.size + 1]? = some (.cells #[.bool false] 4 (0, 0)) := by rw [hW]; have := World.alloc_heap_new (w.alloc (.cells #[.int .i64 0, .int .u64 0, .int .i64 0, .int .u64 0, .int .u64 0] 30)) (.cells #[.bool false] 4); rwa [World.size_alloc] at this
  rw [← hW]
  clear hW
  with_reducible refine (HK.out W hb).mono ?_
  rintro e w1 ⟨rfl, hb1⟩
  have j0 := (hb1.block _ (Array.getElem?_eq_some_iff.1 k0).1).trans k0
  have j1 := (hb1.block _ (Array.getElem?_eq_some_iff.1 k1).1).trans k1
  have HB := Lib.hid (hb.trans (hb1.mono hb.size)); clear hb hb1 k0 k1
  obtain ⟨n, hn⟩ : ∃ n, n = w.heap.size := ⟨_, rfl⟩
  have Hn := Lib.hid hn
  rw [← hn] at j0 j1 ⊢
  clear hn
  have c0 : w1.cell? ⟨n, 0, none⟩ = some (.int .i64 0) := by simp [World.cell?, j0]
  have c1 : w1.cell? ⟨n, 1, none⟩ = some (.int .u64 0) := by simp [World.cell?, j0]
  have c2 : w1.cell? ⟨n, 2, none⟩ = some (.int .i64 0) := by simp [World.cell?, j0]
  have c3 : w1.cell? ⟨n, 3, none⟩ = some (.int .u64 0) := by simp [World.cell?, j0]
  have c4 : w1.cell? ⟨n, 4, none⟩ = some (.int .u64 0) := by simp [World.cell?, j0]
  have c5 : w1.cell? ⟨n + 1, 0, none⟩ = some (.bool false) := by simp [World.cell?, j1]
  have f0 : w1.frozen? ⟨n, 0, none⟩ = false := by simp [World.frozen?, j0]
  have f1 : w1.frozen? ⟨n, 1, none⟩ = false := by simp [World.frozen?, j0]
  have f2 : w1.frozen? ⟨n, 2, none⟩ = false := by simp [World.frozen?, j0]
  have f3 : w1.frozen? ⟨n, 3, none⟩ = false := by simp [World.frozen?, j0]
  have f4 : w1.frozen? ⟨n, 4, none⟩ = false := by simp [World.frozen?, j0]
  have f5 : w1.frozen? ⟨n + 1, 0, none⟩ = false := by simp [World.frozen?, j1]
  have J0 := Lib.hid j0; clear j0
  have J1 := Lib.hid j1; clear j1
  go_wp2
  have hbn : Below w.heap.size w ((((((w1.setCell ⟨n, 0, none⟩ (.int .i64 xk)).setCell ⟨n, 1, none⟩ (.int .u64 (xb : Int))).setCell ⟨n, 2, none⟩ (.int .i64 xc)).setCell ⟨n, 3, none⟩ (.int .u64 (xo : Int))).setCell ⟨n, 4, none⟩ (.int .u64 (xn : Int))).setCell ⟨n + 1, 0, none⟩ (.bool t)) := by
    have e := Hn.out
    exact (((((HB.out.setCell (p := ⟨n, 0, none⟩) (by simp only; omega) _).setCell (p := ⟨n, 1, none⟩) (by simp only; omega) _).setCell (p := ⟨n, 2, none⟩) (by simp only; omega) _).setCell (p := ⟨n, 3, none⟩) (by simp only; omega) _).setCell (p := ⟨n, 4, none⟩) (by simp only; omega) _).setCell (p := ⟨n + 1, 0, none⟩) (by simp only; omega) _
  have HBN := Lib.hid hbn; clear hbn
  refine leaves_cons (f := 43) (args := #[.pointer (some ⟨n, 0, none⟩), .pointer (some ⟨n + 1, 0, none⟩)]) (by simp) (by simp [go_sem]) ?_
  refine (catch_next ⟨n, 0, none⟩ ⟨n + 1, 0, none⟩ _).mono ?_
  rintro e u' w'' ⟨rfl, rfl, rfl⟩
  simp [Leaves, settle, results, Try.results32, go_sem, c0, c1, c2, c3, c4, c5]
  exact ⟨rfl, HBN.out⟩
set_option maxRecDepth 100000 in
set_option maxHeartbeats 4000000 in
theorem next_nil (w : World) : Calls Try.prog 32 #[.nilIface] w (Gives (.tuple #[av ⟨0, 0, 0, 0, 0⟩, .bool false]) w) := by
  have hnil : ∀ w : World, (binOp BinOp.eql 62 .nilIface .nilIface).run Try.prog w = .ok (.bool true) w := fun _ => by kernel_rfl
  have hb : Below w.heap.size w ((w.alloc (.cells #[.int .i64 0, .int .u64 0, .int .i64 0, .int .u64 0, .int .u64 0] 30)).alloc (.cells #[.bool false] 4)) := ((Below.refl _ w).alloc (Nat.le_refl _) _).alloc (by simp) _
  have HB := Lib.hid hb; clear hb
  go_enter_defers Try.func32, Try.ntmps32
  go_wp2
  simp [bodyPostD, Leaves, settle, results, Try.results32, go_sem]
  exact ⟨rfl, HB.out⟩
set_option maxRecDepth 100000 in
set_option maxHeartbeats 4000000 in
theorem take_some (q : Nat) (v : Int) (w : World) (R : World → Prop) (K : Calls Try.prog 11 #[.pointer (some ⟨q, 0, none⟩), .int .u64 v] w fun e w' => e = .returned (.tuple #[]) ∧ R w') :
    Calls Try.prog 47 #[rv q, .int .u64 v] w fun e w' => e = .returned (.tuple #[]) ∧ R w' := by
  have HK := Lib.hid K; clear K
  go_enter_defers Try.func47, Try.ntmps47
  go_wp2_with fail
  with_reducible refine HK.out.mono ?_
  rintro e w1 ⟨rfl, hR⟩
  have HR := Lib.hid hR; clear hR
  go_wp2
  refine leaves_cons (f := 48) (args := #[]) (by simp) (by simp [go_sem]) ?_
  refine (catch_take _).mono ?_
  rintro e u' w'' ⟨rfl, rfl, rfl⟩
  simp [Leaves, settle, results, Try.results47, go_sem]
  exact HR.out
end Go.Proofs.Ytdbolhalgbiggaa
