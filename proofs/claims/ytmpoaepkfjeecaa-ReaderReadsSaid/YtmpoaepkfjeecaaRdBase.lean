/-
  A reader as a block; its Act and New; its words: add, whole, pair. By an AI agent.
-/
import Derived.Test.YtmpoaepkfjeecaaMkTake
import Derived.Test.YtmpoaepkfjeecaaArenaAlloc
import Derived.Test.YtmpoaepkfjeecaaBoxGet
import Derived.Test.YtmpoaepkfjeecaaBoxWords
import Derived.Maps.AppendAt
import Derived.BigQuiet
set_option linter.unusedSimpArgs false
set_option linter.unusedVariables false
namespace Go.Proofs.Ytmpoaepkfjeecaa
open Go.RowKit Go.Maps
open Ac (A)
/-- A reader as a block: the act that comes next, and a slice. -/
def Rb (w : World) (q : Nat) (x : A) (ad : Option Addr) (n c : Nat) : Prop := w.heap[q]? = some (.cells #[.int .i64 x.k, .int .u64 x.b, .int .i64 x.c, .int .u64 x.o, .int .u64 x.n, .slice ad n c] 55 (0, 0))
section
variable {w w' : World} {q n c : Nat} {x : A} {ad : Option Addr}
theorem Rb.lt (h : Rb w q x ad n c) : q < w.heap.size := (Array.getElem?_eq_some_iff.1 h).1
theorem Rb.keep (h : Rb w q x ad n c) (e : w'.heap[q]? = w.heap[q]?) : Rb w' q x ad n c := e.trans h
theorem Rb.below (h : Rb w q x ad n c) (hb : Below w.heap.size w w') : Rb w' q x ad n c := h.keep (hb.block q h.lt)
theorem Rb.fz (h : Rb w q x ad n c) (i : Nat) : w.frozen? ⟨q, i, none⟩ = false := by simp [World.frozen?, show w.heap[q]? = _ from h]
theorem Rb.c0 (h : Rb w q x ad n c) : w.cell? ⟨q, 0, none⟩ = some (.int .i64 x.k) := by simp [World.cell?, show w.heap[q]? = _ from h]
theorem Rb.c1 (h : Rb w q x ad n c) : w.cell? ⟨q, 1, none⟩ = some (.int .u64 (x.b : Int)) := by simp [World.cell?, show w.heap[q]? = _ from h]
theorem Rb.c2 (h : Rb w q x ad n c) : w.cell? ⟨q, 2, none⟩ = some (.int .i64 x.c) := by simp [World.cell?, show w.heap[q]? = _ from h]
theorem Rb.c3 (h : Rb w q x ad n c) : w.cell? ⟨q, 3, none⟩ = some (.int .u64 (x.o : Int)) := by simp [World.cell?, show w.heap[q]? = _ from h]
theorem Rb.c4 (h : Rb w q x ad n c) : w.cell? ⟨q, 4, none⟩ = some (.int .u64 (x.n : Int)) := by simp [World.cell?, show w.heap[q]? = _ from h]
theorem Rb.c5 (h : Rb w q x ad n c) : w.cell? ⟨q, 5, none⟩ = some (.slice ad n c) := by simp [World.cell?, show w.heap[q]? = _ from h]
theorem Rb.drew (h : Rb w q x ad n c) : Rb w.drew q x ad n c := h
/-- Another slice. -/
theorem Rb.held (h : Rb w q x ad n c) (ad' : Option Addr) (n' c' : Nat) : Rb (w.setCell ⟨q, 5, none⟩ (.slice ad' n' c')) q x ad' n' c' := by
  unfold Rb at h ⊢
  rw [heap_setc h _ _]
  simp
/-- The next cell. -/
theorem Rb.celled (h : Rb w q x ad n c) (i : Int) : Rb (w.setCell ⟨q, 2, none⟩ (.int .i64 i)) q ⟨x.k, x.b, i, x.o, x.n⟩ ad n c := by
  unfold Rb at h ⊢
  rw [heap_setc h _ _]
  simp
/-- Another act. -/
abbrev act5 (w : World) (q : Nat) (x : A) : World := ((((w.setCell ⟨q, 0, none⟩ (.int .i64 x.k)).setCell ⟨q, 1, none⟩ (.int .u64 (x.b : Int))).setCell ⟨q, 2, none⟩ (.int .i64 x.c)).setCell ⟨q, 3, none⟩ (.int .u64 (x.o : Int))).setCell ⟨q, 4, none⟩ (.int .u64 (x.n : Int))
theorem Rb.acted (h : Rb w q x ad n c) (y : A) : Rb (act5 w q y) q y ad n c := by
  unfold Rb at h ⊢
  rw [heap_setc (heap_setc (heap_setc (heap_setc (heap_setc h _ _) _ _) _ _) _ _) _ _]
  simp
end
theorem ract_nil (w : World) : Calls Try.prog 9 #[.pointer none] w (Gives (.tuple #[av ⟨0, 0, 0, 0, 0⟩, .bool false]) w) := by
  go_enter Try.func9, Try.ntmps9
  go_wp2
  exact bodyPost_ret (v := .tuple #[av ⟨0, 0, 0, 0, 0⟩, .bool false]) (by simp [results, Try.results9, go_sem]) rfl ⟨rfl, (Below.refl _ w).alloc (Nat.le_refl _) _⟩
set_option maxRecDepth 100000 in
set_option maxHeartbeats 4000000 in
theorem ract_any (w : World) (q n c : Nat) (x : A) (ad : Option Addr) (h : Rb w q x ad n c) : Calls Try.prog 9 #[.pointer (some ⟨q, 0, none⟩)] w (Gives (.tuple #[av x, .bool (!isz x)]) w) := by
  have hb : ∀ o, Below w.heap.size w (w.alloc o) := fun o => (Below.refl _ w).alloc (Nat.le_refl _) _
  have c0 := fun o => (h.below (hb o)).c0
  have c1 := fun o => (h.below (hb o)).c1
  have c2 := fun o => (h.below (hb o)).c2
  have c3 := fun o => (h.below (hb o)).c3
  have c4 := fun o => (h.below (hb o)).c4
  obtain ⟨xk, xb, xc, xo, xn⟩ := x
  unfold isz
  dsimp only at c0 c1 c2 c3 c4 ⊢
  have q1 := ne_act xk xb xc xo xn 0 0 0 0 0
  generalize (!eqB xk xb xc xo xn 0 0 0 0 0) = t at *
  have HB := Lib.hid hb; clear hb
  clear h
  go_enter Try.func9, Try.ntmps9
  go_wp2
  go_region
  all_goals go_wp2
  all_goals exact bodyPost_ret (v := .tuple #[av ⟨xk, xb, xc, xo, xn⟩, .bool t]) (by simp [results, Try.results9, go_sem]) rfl ⟨rfl, (((Below.refl _ w).alloc (Nat.le_refl _) _).drew)⟩
set_option maxRecDepth 100000 in
set_option maxHeartbeats 4000000 in
theorem rnew_any (b : Nat) (w : World) : Calls Try.prog 6 #[.int .u64 (b : Int)] w fun e w' => e = .returned (.pointer (some ⟨w.heap.size, 0, none⟩)) ∧ Rb w' w.heap.size ⟨1, b, 0, 0, 0⟩ none 0 0 ∧ Below w.heap.size w w' := by
  go_enter Try.func6, Try.ntmps6
  go_wp2
  go_ret
  exact ⟨rfl, heap_alloc_new w _, (Below.refl _ w).alloc (Nat.le_refl _) _⟩
set_option maxRecDepth 100000 in
set_option maxHeartbeats 4000000 in
theorem whole_none (w : World) (q c : Nat) (x : A) (ad : Option Addr) (h : Rb w q x ad 0 c) : Calls Try.prog 20 #[.pointer (some ⟨q, 5, none⟩)] w (Gives (.bool false) w) := by
  have c5 := h.c5
  clear h
  go_enter Try.func20, Try.ntmps20
  go_wp2
  go_quiet (fail)
  go_wp2
  go_ret
  exact ⟨rfl, below_drewN w _⟩
set_option maxRecDepth 100000 in
set_option maxHeartbeats 4000000 in
theorem whole_some (w : World) (q n c g y : Nat) (x : A) (h : Rb w q x (some ⟨g, 0, none⟩) n c) (hn : 0 < n) (hn2 : n ≤ 1000000) (hy : w.cell? ⟨g, 0, none⟩ = some (.int .u64 (y : Int))) (hy2 : y < 18446744073709551616) : Calls Try.prog 20 #[.pointer (some ⟨q, 5, none⟩)] w (Gives (.bool ((n : Int) == Bx.size (y : Int))) w) := by
  have c5 := h.c5
  clear h
  have K : ∀ k, Calls Try.prog 32 #[.int .u64 (y : Int)] (w.drewN k) fun e w' => e = .returned (.int .i64 (Bx.size (y : Int))) ∧ ∃ m, w' = w.drewN m := fun k => by
    refine (bsize_any (y : Int) _ (by omega) (by omega)).mono ?_
    rintro e w' ⟨rfl, rfl⟩
    exact ⟨rfl, k, rfl⟩
  generalize Bx.size (y : Int) = s at *
  have HK := Lib.hid K; clear K
  have hn1 : decide ((0 : Int) < (n : Int)) = true := by simp; omega
  have hn3 : decide (0 < n) = true := by simp; omega
  have hn0 : (0 : Int) < (n : Int) := by omega
  go_enter Try.func20, Try.ntmps20
  go_wp2
  go_quiet (with_reducible exact HK.out _)
  go_wp2
  go_ret
  exact ⟨rfl, below_drewN w _⟩
end Go.Proofs.Ytmpoaepkfjeecaa
