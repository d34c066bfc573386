/-
  The walks of Many, allZero, of the document's own Many, and of the comparison of two lists of words. By an AI agent.
-/
import Derived.Test.YtdhhhkjbpfhkaaaMkBase
import Derived.Test.YtdhhhkjbpfhkaaaLaneRef
import Derived.Test.YtdhhhkjbpfhkaaaPackMath
import Derived.OwnWalk
import Derived.Maps.AppendAt
import Derived.Laws.OwnMore
import Derived.Laws.IdiomStrings
namespace Go.Proofs.Ytdhhhkjbpfhkaaa
open Go.RowKit
/-- A slice's address under which the numbers xs lie, below block B. -/
def Sl (k : IntKind) (w : World) (B : Nat) (A : Option Addr) (xs : List Int) : Prop :=
  xs = [] ∨ ∃ b off, A = some ⟨b, off, none⟩ ∧ b < B ∧ ∀ j (h : j < xs.length), w.cell? ⟨b, off + j, none⟩ = some (.int k xs[j])
theorem Sl.below {k : IntKind} {w w' : World} {B : Nat} {A : Option Addr} {xs : List Int} (h : Sl k w B A xs) (hb : Below B w w') : Sl k w' B A xs := by
  rcases h with h | ⟨b, off, rfl, hlt, hc⟩
  · exact .inl h
  · exact .inr ⟨b, off, rfl, hlt, fun j hj => (hb.cell (p := ⟨b, off + j, none⟩) hlt).trans (hc j hj)⟩
theorem Sl.mono {k : IntKind} {w : World} {B B' : Nat} {A : Option Addr} {xs : List Int} (h : Sl k w B A xs) (hb : B ≤ B') : Sl k w B' A xs := by
  rcases h with h | ⟨b, off, rfl, hlt, hc⟩
  · exact .inl h
  · exact .inr ⟨b, off, rfl, by omega, hc⟩
theorem Sl.of_own {k : IntKind} {t : TypeId} {w : World} {base n : Nat} {A : Option Addr} {c : Nat} {xs : List Int} (h : w.ownsRow base t 1 (.slice A n c) n (xs.map (Value.int k))) : Sl k w w.heap.size A xs := by
  rcases h.2 with ⟨hv, rfl⟩ | ⟨g, cap, cur, hv, _, hg, _⟩
  · have := h.1; simp at this; exact .inl this
  · simp only [Value.slice.injEq] at hv
    obtain ⟨rfl, -, rfl⟩ := hv
    refine .inr ⟨g, 0, rfl, (Array.getElem?_eq_some_iff.1 hg).1, fun j hj => ?_⟩
    have hl := h.1
    simp at hl
    rw [Nat.zero_add, h.cellAt j (by omega)]
    simp [hj]
theorem info_u8 : (Try.prog.info? 5).map (fun i => (i.zero, i.size, i.bytes)) = some (some (.int .u8 0), 1, 1) := by kernel_rfl
set_option maxHeartbeats 1000000 in
theorem many_any (n : Int) (w : World) (h0 : -9223372036854775808 ≤ n) (h1 : n ≤ 9223372036854775807) : Calls Try.prog 38 #[.int .i64 n] w (Same (.int .i64 (Pk.many n)) w) := by
  by_cases h : n ≤ 0
  · go_enter Try.func38, Try.ntmps38
    go_wp2
    go_ret
    exact ⟨ret_int (Pk.many_le h).symm, rfl⟩
  · have h' : 0 < n := by omega
    go_enter Try.func38, Try.ntmps38
    go_wp2
    go_ret
    refine ⟨ret_int ?_, rfl⟩
    rw [Pk.many_pos h']
set_option maxRecDepth 100000 in
set_option maxHeartbeats 2000000 in
/-- Two slices of the same words are found the same. -/
theorem words_same (xs : List Int) (A A' : Option Addr) (c c' : Nat) (w : World) (hl : xs.length ≤ 9223372036854775807) (h : Sl .u64 w w.heap.size A xs) (h' : Sl .u64 w w.heap.size A' xs) :
    Calls Try.prog 17 #[.slice A xs.length c, .slice A' xs.length c'] w (Gives (.bool true) w) := by
  have hne : ((xs.length : Int) != (xs.length : Int)) = false := by simp
  go_enter Try.func17, Try.ntmps17
  go_wp2
  go_loopw [5] (fun i wr => ∃ k : Nat, k ≤ xs.length ∧ i = .int .i64 k ∧ Below w.heap.size w wr) (fun i _ => xs.length - (intOf i).toNat)
  case atStart => exact ⟨0, by omega, rfl, Below.refl _ _⟩
  case round =>
    obtain ⟨k, hk, rfl, hB⟩ := hrel
    by_cases hlt : k < xs.length
    · rcases h.below hB with rfl | ⟨b, off, rfl, hb, hc⟩
      · simp at hlt
      rcases h'.below hB with rfl | ⟨b', off', rfl, hb', hc'⟩
      · simp at hlt
      have g1 := hc k hlt
      have g2 := hc' k hlt
      have e1 : (xs[k] != xs[k]) = false := by simp
      clear hc hc'
      go_wp2
      go_region
      all_goals go_wp2
      all_goals go_roundw
      all_goals first | exact ⟨k + 1, by omega, by go_num, hB.drew⟩ | (simp [intOf]; omega)
    · obtain rfl : k = xs.length := by omega
      go_wp2
      go_ret
      exact ⟨rfl, hB⟩
end Go.Proofs.Ytdhhhkjbpfhkaaa
