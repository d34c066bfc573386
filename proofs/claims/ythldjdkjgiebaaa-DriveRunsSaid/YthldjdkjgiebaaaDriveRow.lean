/-
  A routine of the law's in memory; the walks of its Act and Take. By an AI agent.
-/
import Derived.Test.YthldjdkjgiebaaaActFields
import Derived.Test.YthldjdkjgiebaaaArenaColl
import Derived.BigQuiet
set_option linter.unusedSimpArgs false
set_option linter.unusedVariables false
namespace Go.Proofs.Ythldjdkjgiebaaa
open Go.RowKit Go.Maps
open Mm (Mem Blk)
open Ac (A)
/-- Words as cells. -/
def ws (ys : List Int) : List Value := ys.map (Value.int .u64)
/-- An act at a place of a slice. -/
def ActAt (a : Option Addr) (w : World) (j : Nat) (x : A) : Prop := ∃ b off, a = some ⟨b, off, none⟩ ∧ w.cell? ⟨b, off + j * 5, none⟩ = some (.int .i64 x.k) ∧ w.cell? ⟨b, off + j * 5 + 1, none⟩ = some (.int .u64 (x.b : Int)) ∧ w.cell? ⟨b, off + j * 5 + 2, none⟩ = some (.int .i64 x.c) ∧ w.cell? ⟨b, off + j * 5 + 3, none⟩ = some (.int .u64 (x.o : Int)) ∧ w.cell? ⟨b, off + j * 5 + 4, none⟩ = some (.int .u64 (x.n : Int))
/-- The blocks of a routine. -/
def Hp (q : Nat) (au : Option Addr) (k : Nat) : Prop := k = q ∨ (Value.slice au 0 0).ownBlock = some k
/-- A routine of the law's: the acts that it has (N of them), and what was answered to those that were done. -/
structure Rw (B : Nat) (w : World) (q : Nat) (a : Option Addr) (N c : Nat) (gs : List Int) (au : Option Addr) (cu : Nat) : Prop where
  qB : B ≤ q
  own : w.heap[q]? = some (.cells #[.slice a N c, .slice au gs.length cu] 29 (0, 0))
  row : w.ownsRow B 35 1 (.slice au gs.length cu) gs.length (ws gs)
set_option maxRecDepth 100000 in
set_option maxHeartbeats 4000000 in
theorem ract_more (q : Nat) (a au : Option Addr) (N c m cu : Nat) (x : A) (w : World) (h0 : w.cell? ⟨q, 0, none⟩ = some (.slice a N c)) (h1 : w.cell? ⟨q, 1, none⟩ = some (.slice au m cu)) (hm : m < N) (hx : ActAt a w m x) :
    Calls Try.prog 92 #[.pointer (some ⟨q, 0, none⟩)] w (Gives (.tuple #[av x, .bool true]) w) := by
  obtain ⟨b, off, rfl, c0, c1, c2, c3, c4⟩ := hx
  obtain ⟨xk, xb, xc, xo, xn⟩ := x
  dsimp only at c0 c1 c2 c3 c4
  obtain ⟨W, hW⟩ : ∃ W, W = w.alloc (.cells #[.int .i64 0, .int .u64 0, .int .i64 0, .int .u64 0, .int .u64 0] 42) := ⟨_, rfl⟩
  have hb : Below w.heap.size w W := by rw [hW]; exact (Below.refl _ w).alloc (Nat.le_refl _) _
  have hlt : (m : Int) < (N : Int) := by omega
  have hd : decide ((N : Int) ≤ (m : Int)) = false := by simp; omega
  have hm0 : (0 : Int) ≤ (m : Int) := by omega
  go_enter Try.func92, Try.ntmps92
  go_wp2_with fail
  have n0 := hb.cell (p := ⟨q, 0, none⟩) (World.block_lt_of_cell? _ _ h0)
  have n1 := hb.cell (p := ⟨q, 1, none⟩) (World.block_lt_of_cell? _ _ h1)
  have m0 := hb.cell (p := ⟨b, off + m * 5, none⟩) (World.block_lt_of_cell? _ _ c0)
  have m1 := hb.cell (p := ⟨b, off + m * 5 + 1, none⟩) (World.block_lt_of_cell? _ _ c1)
  have m2 := hb.cell (p := ⟨b, off + m * 5 + 2, none⟩) (World.block_lt_of_cell? _ _ c2)
  have m3 := hb.cell (p := ⟨b, off + m * 5 + 3, none⟩) (World.block_lt_of_cell? _ _ c3)
  have m4 := hb.cell (p := ⟨b, off + m * 5 + 4, none⟩) (World.block_lt_of_cell? _ _ c4)
  rw [h0] at n0
  rw [h1] at n1
  rw [c0] at m0
  rw [c1] at m1
  rw [c2] at m2
  rw [c3] at m3
  rw [c4] at m4
  clear h0 h1 c0 c1 c2 c3 c4
  have HB := Lib.hid hb; clear hb
  subst hW
  go_region
  all_goals go_wp2
  go_region
  all_goals go_wp2
  exact bodyPost_ret (v := .tuple #[av ⟨xk, xb, xc, xo, xn⟩, .bool true]) (by simp [results, Try.results92, go_sem]) rfl ⟨rfl, (((Below.refl _ w).alloc (Nat.le_refl _) _).drew).drew⟩
set_option maxRecDepth 100000 in
set_option maxHeartbeats 4000000 in
theorem ract_end (q : Nat) (a au : Option Addr) (N c m cu : Nat) (w : World) (h0 : w.cell? ⟨q, 0, none⟩ = some (.slice a N c)) (h1 : w.cell? ⟨q, 1, none⟩ = some (.slice au m cu)) (hm : N ≤ m) :
    Calls Try.prog 92 #[.pointer (some ⟨q, 0, none⟩)] w (Gives (.tuple #[av ⟨0, 0, 0, 0, 0⟩, .bool false]) w) := by
  obtain ⟨W, hW⟩ : ∃ W, W = w.alloc (.cells #[.int .i64 0, .int .u64 0, .int .i64 0, .int .u64 0, .int .u64 0] 42) := ⟨_, rfl⟩
  have hb : Below w.heap.size w W := by rw [hW]; exact (Below.refl _ w).alloc (Nat.le_refl _) _
  have hd : decide ((N : Int) ≤ (m : Int)) = true := by simp; omega
  go_enter Try.func92, Try.ntmps92
  go_wp2_with fail
  have n0 := hb.cell (p := ⟨q, 0, none⟩) (World.block_lt_of_cell? _ _ h0)
  have n1 := hb.cell (p := ⟨q, 1, none⟩) (World.block_lt_of_cell? _ _ h1)
  rw [h0] at n0
  rw [h1] at n1
  clear h0 h1
  have HB := Lib.hid hb; clear hb
  subst hW
  go_region
  all_goals go_wp2
  exact bodyPost_ret (v := .tuple #[av ⟨0, 0, 0, 0, 0⟩, .bool false]) (by simp [results, Try.results92, go_sem]) rfl ⟨rfl, ((Below.refl _ w).alloc (Nat.le_refl _) _).drew⟩
end Go.Proofs.Ythldjdkjgiebaaa
