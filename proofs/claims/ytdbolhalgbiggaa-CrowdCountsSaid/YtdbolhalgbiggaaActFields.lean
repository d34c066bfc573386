/-
  How an act lies in memory; the walk of fieldsOf. By an AI agent.
-/
import Derived.Test.YtdbolhalgbiggaaActMath
import Derived.Test.YtdbolhalgbiggaaArenaParts
import Derived.Laws.StructEq
set_option linter.unusedSimpArgs false
namespace Go.Proofs.Ytdbolhalgbiggaa
open Go.RowKit
open Ac (A)
/-- The value of an act. -/
abbrev av (x : A) : Value := .agg #[.int .i64 x.k, .int .u64 x.b, .int .i64 x.c, .int .u64 x.o, .int .u64 x.n]
/-- The world with an act's box. -/
abbrev boxed (w : World) (x : A) : World := w.alloc (.cells #[.int .i64 x.k, .int .u64 x.b, .int .i64 x.c, .int .u64 x.o, .int .u64 x.n] 30)
theorem boxed_below (w : World) (x : A) : Below w.heap.size w (boxed w x) := (Below.refl _ _).alloc (Nat.le_refl _) _
/-- The cells of a box, in a world behind it. -/
theorem boxed_cells {w w' : World} {x : A} (h : Below (boxed w x).heap.size (boxed w x) w') : w'.cell? ⟨w.heap.size, 0, none⟩ = some (.int .i64 x.k) ∧ w'.cell? ⟨w.heap.size, 1, none⟩ = some (.int .u64 x.b) ∧ w'.cell? ⟨w.heap.size, 2, none⟩ = some (.int .i64 x.c) ∧ w'.cell? ⟨w.heap.size, 3, none⟩ = some (.int .u64 x.o) ∧ w'.cell? ⟨w.heap.size, 4, none⟩ = some (.int .u64 x.n) := by
  have hs : w.heap.size < (boxed w x).heap.size := by simp
  refine ⟨?_, ?_, ?_, ?_, ?_⟩ <;> rw [h.cell hs, World.cell?_alloc_new] <;> rfl
set_option maxRecDepth 100000 in
set_option maxHeartbeats 4000000 in
theorem fields_no (k : Int) (h : Ac.known k = false) (w : World) : Calls Try.prog 44 #[.int .i64 k] w (Gives (.tuple #[.agg #[.bool false, .bool false, .bool false, .bool false], .bool false]) w) := by
  have hk : ∀ n : Int, 0 ≤ n → n ≤ 6 → k ≠ n := fun n h0 h6 e => by subst e; simp [Ac.known, h0, h6] at h
  have h0 : (k == 0) = false := by simpa using hk 0 (by omega) (by omega)
  have h1 : (k == 1) = false := by simpa using hk 1 (by omega) (by omega)
  have h2 : (k == 2) = false := by simpa using hk 2 (by omega) (by omega)
  have h3 : (k == 3) = false := by simpa using hk 3 (by omega) (by omega)
  have h4 : (k == 4) = false := by simpa using hk 4 (by omega) (by omega)
  have h5 : (k == 5) = false := by simpa using hk 5 (by omega) (by omega)
  have h6 : (k == 6) = false := by simpa using hk 6 (by omega) (by omega)
  clear hk h
  go_enter Try.func44, Try.ntmps44
  go_wp2
  exact bodyPost_ret (v := .tuple #[.agg #[.bool false, .bool false, .bool false, .bool false], .bool false]) (by simp [results, Try.results44, go_sem]) rfl ⟨rfl, ((Below.refl _ _).alloc (Nat.le_refl _) _).alloc (by simp) _⟩
set_option maxRecDepth 100000 in
set_option maxHeartbeats 4000000 in
theorem fields_0 (w : World) : Calls Try.prog 44 #[.int .i64 0] w (Gives (.tuple #[.agg #[.bool false, .bool false, .bool false, .bool false], .bool true]) w) := by
  go_enter Try.func44, Try.ntmps44
  go_wp2
  exact bodyPost_ret (v := .tuple #[.agg #[.bool false, .bool false, .bool false, .bool false], .bool true]) (by simp [results, Try.results44, go_sem]) rfl ⟨rfl, ((Below.refl _ _).alloc (Nat.le_refl _) _).alloc (by simp) _⟩
set_option maxRecDepth 100000 in
set_option maxHeartbeats 4000000 in
theorem fields_1 (w : World) : Calls Try.prog 44 #[.int .i64 1] w (Gives (.tuple #[.agg #[.bool true, .bool true, .bool false, .bool false], .bool true]) w) := by
  go_enter Try.func44, Try.ntmps44
  go_wp2
  exact bodyPost_ret (v := .tuple #[.agg #[.bool true, .bool true, .bool false, .bool false], .bool true]) (by simp [results, Try.results44, go_sem]) rfl ⟨rfl, ((Below.refl _ _).alloc (Nat.le_refl _) _).alloc (by simp) _⟩
set_option maxRecDepth 100000 in
set_option maxHeartbeats 4000000 in
theorem fields_2 (w : World) : Calls Try.prog 44 #[.int .i64 2] w (Gives (.tuple #[.agg #[.bool true, .bool true, .bool false, .bool true], .bool true]) w) := by
  go_enter Try.func44, Try.ntmps44
  go_wp2
  exact bodyPost_ret (v := .tuple #[.agg #[.bool true, .bool true, .bool false, .bool true], .bool true]) (by simp [results, Try.results44, go_sem]) rfl ⟨rfl, ((Below.refl _ _).alloc (Nat.le_refl _) _).alloc (by simp) _⟩
set_option maxRecDepth 100000 in
set_option maxHeartbeats 4000000 in
theorem fields_3 (w : World) : Calls Try.prog 44 #[.int .i64 3] w (Gives (.tuple #[.agg #[.bool true, .bool true, .bool true, .bool true], .bool true]) w) := by
  go_enter Try.func44, Try.ntmps44
  go_wp2
  exact bodyPost_ret (v := .tuple #[.agg #[.bool true, .bool true, .bool true, .bool true], .bool true]) (by simp [results, Try.results44, go_sem]) rfl ⟨rfl, ((Below.refl _ _).alloc (Nat.le_refl _) _).alloc (by simp) _⟩
set_option maxRecDepth 100000 in
set_option maxHeartbeats 4000000 in
theorem fields_4 (w : World) : Calls Try.prog 44 #[.int .i64 4] w (Gives (.tuple #[.agg #[.bool true, .bool true, .bool false, .bool true], .bool true]) w) := by
  go_enter Try.func44, Try.ntmps44
  go_wp2
  exact bodyPost_ret (v := .tuple #[.agg #[.bool true, .bool true, .bool false, .bool true], .bool true]) (by simp [results, Try.results44, go_sem]) rfl ⟨rfl, ((Below.refl _ _).alloc (Nat.le_refl _) _).alloc (by simp) _⟩
set_option maxRecDepth 100000 in
set_option maxHeartbeats 4000000 in
theorem fields_5 (w : World) : Calls Try.prog 44 #[.int .i64 5] w (Gives (.tuple #[.agg #[.bool false, .bool true, .bool false, .bool false], .bool true]) w) := by
  go_enter Try.func44, Try.ntmps44
  go_wp2
  exact bodyPost_ret (v := .tuple #[.agg #[.bool false, .bool true, .bool false, .bool false], .bool true]) (by simp [results, Try.results44, go_sem]) rfl ⟨rfl, ((Below.refl _ _).alloc (Nat.le_refl _) _).alloc (by simp) _⟩
set_option maxRecDepth 100000 in
set_option maxHeartbeats 4000000 in
theorem fields_6 (w : World) : Calls Try.prog 44 #[.int .i64 6] w (Gives (.tuple #[.agg #[.bool true, .bool false, .bool false, .bool false], .bool true]) w) := by
  go_enter Try.func44, Try.ntmps44
  go_wp2
  exact bodyPost_ret (v := .tuple #[.agg #[.bool true, .bool false, .bool false, .bool false], .bool true]) (by simp [results, Try.results44, go_sem]) rfl ⟨rfl, ((Below.refl _ _).alloc (Nat.le_refl _) _).alloc (by simp) _⟩
/-- ████ fieldsOf. ████ -/
theorem fields_any (k : Int) (w : World) : Calls Try.prog 44 #[.int .i64 k] w (Gives (.tuple #[.agg #[.bool (Ac.fb k), .bool (Ac.fc k), .bool (Ac.fo k), .bool (Ac.fn k)], .bool (Ac.known k)]) w) := by
  cases h : Ac.known k with
  | false =>
    have hk : ∀ n : Int, 0 ≤ n → n ≤ 6 → k ≠ n := fun n h0 h6 e => by subst e; simp [Ac.known, h0, h6] at h
    have e0 : Ac.fb k = false := by simp [Ac.fb]; exact ⟨⟨⟨⟨hk 1 (by omega) (by omega), hk 2 (by omega) (by omega)⟩, hk 3 (by omega) (by omega)⟩, hk 4 (by omega) (by omega)⟩, hk 6 (by omega) (by omega)⟩
    have e1 : Ac.fc k = false := by simp [Ac.fc]; simp [Ac.known] at h; omega
    have e2 : Ac.fo k = false := by simp [Ac.fo]; exact hk 3 (by omega) (by omega)
    have e3 : Ac.fn k = false := by simp [Ac.fn]; exact ⟨⟨hk 2 (by omega) (by omega), hk 3 (by omega) (by omega)⟩, hk 4 (by omega) (by omega)⟩
    rw [e0, e1, e2, e3]
    exact fields_no k h w
  | true =>
    rcases Ac.kinds h with rfl | rfl | rfl | rfl | rfl | rfl | rfl
    · exact fields_0 w
    · exact fields_1 w
    · exact fields_2 w
    · exact fields_3 w
    · exact fields_4 w
    · exact fields_5 w
    · exact fields_6 w
end Go.Proofs.Ytdbolhalgbiggaa
