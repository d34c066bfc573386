/-
  The walk of words: all words of an arena; rows of words, compared. By an AI agent.
-/
import Derived.Test.YthldjdkjgiebaaaDriveRow
import Derived.Test.YthldjdkjgiebaaaActBoth
set_option linter.unusedSimpArgs false
set_option linter.unusedVariables false
namespace Go.Proofs.Ythldjdkjgiebaaa
open Go.RowKit Go.Maps
open Mm (Mem Blk)
/-- A value that is a row of words, in blocks from B on. -/
def Wl (B : Nat) (w : World) (v : Value) (ys : List Int) : Prop := ∃ a c, v = .slice a ys.length c ∧ ∀ k (hk : k < ys.length), ∃ b, a = some ⟨b, 0, none⟩ ∧ B ≤ b ∧ b < w.heap.size ∧ w.cell? ⟨b, k, none⟩ = some (.int .u64 ys[k])
theorem Wl.of_row {w : World} {B : Nat} {v : Value} {ys : List Int} (h : w.ownsRow B 35 1 v ys.length (ws ys)) : Wl B w v ys := by
  have hlt := fun k hk => h.lt k hk
  rcases h.2 with ⟨rfl, h0⟩ | ⟨g, cap, cur, rfl, _, hg, _, _, _, ht⟩
  · exact ⟨none, 0, by rw [h0], fun k hk => by omega⟩
  · refine ⟨_, _, rfl, fun k hk => ⟨g, rfl, (hlt g rfl).1, (hlt g rfl).2, ?_⟩⟩
    have e1 : (ws ys)[k]? = some (.int .u64 ys[k]) := by simp [ws, hk]
    rw [← ht, List.getElem?_take, if_pos (by omega)] at e1
    simpa [World.cell?, hg] using e1
theorem us_ws (ss : List Nat) : us ss = ws (ss.map (fun n : Nat => (n : Int))) := by simp [us, ws, ku, Function.comp_def]
theorem Wl.below {B : Nat} {w w' : World} {v : Value} {ys : List Int} (h : Wl B w v ys) (hb : Below w.heap.size w w') : Wl B w' v ys :=
  let ⟨a, c, e, hc⟩ := h
  ⟨a, c, e, fun k hk => let ⟨b, ea, hB, hlt, hcell⟩ := hc k hk; ⟨b, ea, hB, Nat.lt_of_lt_of_le hlt hb.size, (hb.cell (p := ⟨b, k, none⟩) hlt).trans hcell⟩⟩
theorem Wl.tn {B : Nat} {F F' : Nat → Prop} {w w' : World} {v : Value} {ys : List Int} (h : Wl B w v ys) (ht : Tn F F' w w') (hF : ∀ k, F k → k < B) : Wl B w' v ys :=
  let ⟨a, c, e, hc⟩ := h
  ⟨a, c, e, fun k hk => let ⟨b, ea, hB, hlt, hcell⟩ := hc k hk; ⟨b, ea, hB, Nat.lt_of_lt_of_le hlt ht.size, (cell_keep (ht.block b hlt (fun hk => by have := hF b hk; omega)) k).trans hcell⟩⟩
theorem Wl.mono {B C : Nat} {w : World} {v : Value} {ys : List Int} (h : Wl B w v ys) (hC : C ≤ B) : Wl C w v ys :=
  let ⟨a, c, e, hc⟩ := h
  ⟨a, c, e, fun k hk => let ⟨b, ea, hB, hlt, hcell⟩ := hc k hk; ⟨b, ea, by omega, hlt, hcell⟩⟩
set_option maxRecDepth 100000 in
set_option maxHeartbeats 2000000 in
/-- Two rows of the same words. -/
theorem wl_same (ys : List Int) (B1 B2 : Nat) (v1 v2 : Value) (w : World) (hl : ys.length ≤ 1000000) (h1 : Wl B1 w v1 ys) (h2 : Wl B2 w v2 ys) :
    Calls Try.prog 13 #[v1, v2] w (Gives (.bool true) w) := by
  obtain ⟨a1, c1, rfl, H1⟩ := h1
  obtain ⟨a2, c2, rfl, H2⟩ := h2
  obtain ⟨N, hN⟩ : ∃ N, N = ys.length := ⟨_, rfl⟩
  have hne : ((N : Int) != (N : Int)) = false := by simp
  have HC : Hid (∀ (wr : World), Below w.heap.size w wr → ∀ k, k < N → ∃ b1 b2 y, a1 = some ⟨b1, 0, none⟩ ∧ a2 = some ⟨b2, 0, none⟩ ∧ wr.drew.cell? ⟨b1, k, none⟩ = some (.int .u64 y) ∧ wr.drew.cell? ⟨b2, k, none⟩ = some (.int .u64 y)) := Lib.hid (by
    intro wr hB k hk
    rw [hN] at hk
    obtain ⟨b1, e1, -, l1, g1⟩ := H1 k hk
    obtain ⟨b2, e2, -, l2, g2⟩ := H2 k hk
    exact ⟨b1, b2, ys[k], e1, e2, (hB.drew.cell (p := ⟨b1, k, none⟩) l1).trans g1, (hB.drew.cell (p := ⟨b2, k, none⟩) l2).trans g2⟩)
  rw [← hN] at hl ⊢
  clear H1 H2 hN
  go_enter Try.func13, Try.ntmps13
  go_wp2
  go_loopw [5] (fun i wr => ∃ k : Nat, k ≤ N ∧ i = .int .i64 k ∧ Below w.heap.size w wr) (fun i _ => N - (intOf i).toNat)
  case atStart => exact ⟨0, by omega, rfl, Below.refl _ _⟩
  case round =>
    obtain ⟨k, hk, rfl, hB⟩ := hrel
    by_cases hlt : k < N
    · obtain ⟨b1, b2, y, rfl, rfl, g1, g2⟩ := HC.out wr hB k hlt
      have e1 : (y != y) = false := by simp
      have HB := Lib.hid hB; clear hB
      go_wp2
      go_region
      all_goals go_wp2
      all_goals go_roundw
      all_goals first | exact ⟨k + 1, by omega, by go_num, HB.out.drew⟩ | (simp [intOf]; omega)
    · obtain rfl : k = N := by omega
      go_wp2
      go_ret
      exact ⟨rfl, hB⟩
end Go.Proofs.Ythldjdkjgiebaaa
