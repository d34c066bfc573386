/-
  Words; May; the nil arena, and one that New did not make. By an AI agent.
-/
import Derived.Test.YthgabbkpjffdnaaDoorArenaRef3
set_option linter.unusedSimpArgs false
namespace Go.Proofs.YthgabbkpjffdnaaDoor
open Go.RowKit Go.Maps
open Mm (Mem Blk)
/-- A row's slice, and its cells. -/
theorem row_form {w : World} {B : Nat} {v : Value} {ss : List Nat} (h : w.ownsRow B 23 1 v ss.length (us ss)) :
    ∃ a c, v = .slice a ss.length c ∧ ∀ (k : Nat) (hk : k < ss.length), ∃ b, a = some ⟨b, 0, none⟩ ∧ w.cell? ⟨b, k, none⟩ = some (.int .u64 (ss[k] : Nat)) := by
  rcases h.2 with ⟨rfl, h0⟩ | ⟨g, cap, cur, rfl, _, hg, _, _, _, ht⟩
  · exact ⟨none, 0, by rw [h0], fun k hk => by omega⟩
  · refine ⟨_, _, rfl, fun k hk => ⟨g, rfl, ?_⟩⟩
    have e1 : (us ss)[k]? = some (.int .u64 (ss[k] : Nat)) := by simp [us, ku, hk]
    rw [← ht, List.getElem?_take, if_pos (by omega)] at e1
    simpa [World.cell?, hg] using e1
set_option maxRecDepth 100000 in
set_option maxHeartbeats 2000000 in
theorem words_same (ss : List Nat) (B1 B2 : Nat) (v1 v2 : Value) (w : World) (hl : ss.length ≤ 1000000) (h1 : w.ownsRow B1 23 1 v1 ss.length (us ss)) (h2 : w.ownsRow B2 23 1 v2 ss.length (us ss)) :
    Calls Tryd.prog 17 #[v1, v2] w (Gives (.bool true) w) := by
  obtain ⟨a1, c1, rfl, H1⟩ := row_form h1
  obtain ⟨a2, c2, rfl, H2⟩ := row_form h2
  have Hl1 : Hid (∀ k, ss ≠ [] → Value.ownBlock (.slice a1 ss.length c1) = some k → k < w.heap.size) := Lib.hid fun k _ hk => (h1.lt k hk).2
  have Hl2 : Hid (∀ k, ss ≠ [] → Value.ownBlock (.slice a2 ss.length c2) = some k → k < w.heap.size) := Lib.hid fun k _ hk => (h2.lt k hk).2
  clear h1 h2
  obtain ⟨N, hN⟩ : ∃ N, N = ss.length := ⟨_, rfl⟩
  have hne : ((N : Int) != (N : Int)) = false := by simp
  have HC : Hid (∀ (wr : World), Below w.heap.size w wr → ∀ k, k < N → ∃ b1 b2 y, a1 = some ⟨b1, 0, none⟩ ∧ a2 = some ⟨b2, 0, none⟩ ∧ wr.drew.cell? ⟨b1, k, none⟩ = some (.int .u64 y) ∧ wr.drew.cell? ⟨b2, k, none⟩ = some (.int .u64 y)) := Lib.hid (by
    intro wr hB k hk
    rw [hN] at hk
    obtain ⟨b1, e1, g1⟩ := H1 k hk
    obtain ⟨b2, e2, g2⟩ := H2 k hk
    have hne : ss ≠ [] := fun e => by rw [e] at hk; simp at hk
    refine ⟨b1, b2, ((ss[k] : Nat) : Int), e1, e2, ?_, ?_⟩
    · have : b1 < w.heap.size := Hl1.out b1 hne (by rw [e1]; rfl)
      exact (hB.drew.cell (p := ⟨b1, k, none⟩) this).trans g1
    · have : b2 < w.heap.size := Hl2.out b2 hne (by rw [e2]; rfl)
      exact (hB.drew.cell (p := ⟨b2, k, none⟩) this).trans g2)
  rw [← hN] at hl ⊢
  clear H1 H2 Hl1 Hl2 hN
  go_enter Tryd.func17, Tryd.ntmps17
  go_wp2
  go_loopw [5] (fun i wr => ∃ k : Nat, k ≤ N ∧ i = .int .i64 k ∧ Below w.heap.size w wr) (fun i _ => N - (intOf i).toNat)
  case atStart => exact ⟨0, by omega, rfl, Below.refl _ _⟩
  case round =>
    obtain ⟨k, hk, rfl, hB⟩ := hrel
    by_cases hlt : k < N
    · obtain ⟨b1, b2, y, rfl, rfl, g1, g2⟩ := HC.out wr hB k hlt
      have e1 : (y != y) = false := by simp
      have HB := Lib.hid hB; clear hB
      go_wp2
      go_region
      all_goals go_wp2
      all_goals go_roundw
      all_goals first | exact ⟨k + 1, by omega, by go_num, HB.out.drew⟩ | (simp [intOf]; omega)
    · obtain rfl : k = N := by omega
      go_wp2
      go_ret
      exact ⟨rfl, hB⟩
set_option maxRecDepth 100000 in
set_option maxHeartbeats 1000000 in
theorem alloc_nil (n : Int) (w : World) : Calls Tryd.prog 24 #[.pointer none, .int .i64 n] w (Gives (.int .u64 0) w) := by
  have HM := Lib.hid fun n => quiet_of (w := w) (n := n) (made_nil (w.drewN n))
  go_enter Tryd.func24, Tryd.ntmps24
  go_wp2
  go_quiet ((go_at_call 38; with_reducible exact HM.out _))
  go_wp2
  go_ret
  exact ⟨rfl, below_drewN _ _⟩
set_option maxRecDepth 100000 in
set_option maxHeartbeats 1000000 in
theorem free_nil (b : Int) (w : World) : Calls Tryd.prog 30 #[.pointer none, .int .u64 b] w (Same (.int .i64 6) w) := by
  have HM := Lib.hid (made_nil w)
  go_enter Tryd.func30, Tryd.ntmps30
  go_wp2_with fail
  with_reducible refine HM.out.mono ?_
  rintro e w' ⟨rfl, rfl⟩
  go_wp2_with fail
  go_ret
  exact ⟨rfl, rfl⟩
set_option maxRecDepth 100000 in
set_option maxHeartbeats 1000000 in
theorem used_nil (w : World) : Calls Tryd.prog 14 #[.pointer none] w (Same (.int .i64 0) w) := by
  have HM := Lib.hid (made_nil w)
  go_enter Tryd.func14, Tryd.ntmps14
  go_wp2_with fail
  with_reducible refine HM.out.mono ?_
  rintro e w' ⟨rfl, rfl⟩
  go_wp2_with fail
  go_ret
  exact ⟨rfl, rfl⟩
set_option maxRecDepth 100000 in
set_option maxHeartbeats 1000000 in
theorem faults_nil (w : World) : Calls Tryd.prog 16 #[.pointer none] w (Same (.int .i64 0) w) := by
  have HM := Lib.hid (made_nil w)
  go_enter Tryd.func16, Tryd.ntmps16
  go_wp2_with fail
  with_reducible refine HM.out.mono ?_
  rintro e w' ⟨rfl, rfl⟩
  go_wp2_with fail
  go_ret
  exact ⟨rfl, rfl⟩
set_option maxRecDepth 100000 in
set_option maxHeartbeats 1000000 in
theorem size_nil (b : Int) (w : World) : Calls Tryd.prog 51 #[.pointer none, .int .u64 b] w (Same (.int .i64 0) w) := by
  have HM := Lib.hid (made_nil w)
  go_enter Tryd.func51, Tryd.ntmps51
  go_wp2_with fail
  with_reducible refine HM.out.mono ?_
  rintro e w' ⟨rfl, rfl⟩
  go_wp2_with fail
  go_ret
  exact ⟨rfl, rfl⟩
set_option maxRecDepth 100000 in
set_option maxHeartbeats 1000000 in
theorem blocks_nil (w : World) : Calls Tryd.prog 18 #[.pointer none] w (Same (.slice none 0 0) w) := by
  have HM := Lib.hid (made_nil w)
  go_enter Tryd.func18, Tryd.ntmps18
  go_wp2_with fail
  with_reducible refine HM.out.mono ?_
  rintro e w' ⟨rfl, rfl⟩
  go_wp2_with fail
  go_ret
  exact ⟨rfl, rfl⟩
set_option maxRecDepth 100000 in
set_option maxHeartbeats 1000000 in
theorem reach_plain (p : Nat) (b i : Int) (w : World) (h : w.cell? ⟨p, 0, none⟩ = some (.int .i64 0)) :
    Calls Tryd.prog 52 #[.pointer (some ⟨p, 0, none⟩), .int .u64 b, .int .i64 i] w (Same (.tuple #[.slice none 0 0, .int .i64 6]) w) := by
  have HM := Lib.hid (made_any p 0 false rfl w h)
  clear h
  go_enter Tryd.func52, Tryd.ntmps52
  go_wp2_with fail
  with_reducible refine HM.out.mono ?_
  rintro e w' ⟨rfl, rfl⟩
  go_wp2_with fail
  go_ret2
  exact ⟨rfl, rfl⟩
set_option maxRecDepth 100000 in
set_option maxHeartbeats 1000000 in
theorem store_plain (p : Nat) (b i y : Int) (w : World) (h : w.cell? ⟨p, 0, none⟩ = some (.int .i64 0)) :
    Calls Tryd.prog 27 #[.pointer (some ⟨p, 0, none⟩), .int .u64 b, .int .i64 i, .int .u64 y] w (Same (.int .i64 6) w) := by
  have HM := Lib.hid (reach_plain p b i w h)
  clear h
  go_enter Tryd.func27, Tryd.ntmps27
  go_wp2_with fail
  with_reducible refine HM.out.mono ?_
  rintro e w' ⟨rfl, rfl⟩
  go_wp2_with fail
  go_ret
  exact ⟨rfl, rfl⟩
end Go.Proofs.YthgabbkpjffdnaaDoor
