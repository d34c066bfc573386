/-
  The walks of Many, allZero, of the document's own Many, and of the comparison of two lists of words. By an AI agent.
-/
import Derived.Test.YtmpoaepkfjeecaaMkBase
import Derived.Test.YtmpoaepkfjeecaaLaneRef
import Derived.Test.YtmpoaepkfjeecaaPackMath
import Derived.OwnWalk
import Derived.Maps.AppendAt
import Derived.Laws.OwnMore
import Derived.Laws.IdiomStrings
namespace Go.Proofs.Ytmpoaepkfjeecaa
open Go.RowKit
/-- A slice's address under which the numbers xs lie, below block B. -/
def Sl (k : IntKind) (w : World) (B : Nat) (A : Option Addr) (xs : List Int) : Prop :=
  xs = [] ∨ ∃ b off, A = some ⟨b, off, none⟩ ∧ b < B ∧ ∀ j (h : j < xs.length), w.cell? ⟨b, off + j, none⟩ = some (.int k xs[j])
theorem Sl.below {k : IntKind} {w w' : World} {B : Nat} {A : Option Addr} {xs : List Int} (h : Sl k w B A xs) (hb : Below B w w') : Sl k w' B A xs := by
  rcases h with h | ⟨b, off, rfl, hlt, hc⟩
  · exact .inl h
  · exact .inr ⟨b, off, rfl, hlt, fun j hj => (hb.cell (p := ⟨b, off + j, none⟩) hlt).trans (hc j hj)⟩
theorem Sl.mono {k : IntKind} {w : World} {B B' : Nat} {A : Option Addr} {xs : List Int} (h : Sl k w B A xs) (hb : B ≤ B') : Sl k w B' A xs := by
  rcases h with h | ⟨b, off, rfl, hlt, hc⟩
  · exact .inl h
  · exact .inr ⟨b, off, rfl, by omega, hc⟩
theorem Sl.of_own {k : IntKind} {t : TypeId} {w : World} {base n : Nat} {A : Option Addr} {c : Nat} {xs : List Int} (h : w.ownsRow base t 1 (.slice A n c) n (xs.map (Value.int k))) : Sl k w w.heap.size A xs := by
  rcases h.2 with ⟨hv, rfl⟩ | ⟨g, cap, cur, hv, _, hg, _⟩
  · have := h.1; simp at this; exact .inl this
  · simp only [Value.slice.injEq] at hv
    obtain ⟨rfl, -, rfl⟩ := hv
    refine .inr ⟨g, 0, rfl, (Array.getElem?_eq_some_iff.1 hg).1, fun j hj => ?_⟩
    have hl := h.1
    simp at hl
    rw [Nat.zero_add, h.cellAt j (by omega)]
    simp [hj]
theorem info_u8 : (Try.prog.info? 5).map (fun i => (i.zero, i.size, i.bytes)) = some (some (.int .u8 0), 1, 1) := by kernel_rfl
set_option maxHeartbeats 1000000 in
theorem many_any (n : Int) (w : World) (h0 : -9223372036854775808 ≤ n) (h1 : n ≤ 9223372036854775807) : Calls Try.prog 42 #[.int .i64 n] w (Same (.int .i64 (Pk.many n)) w) := by
  by_cases h : n ≤ 0
  · go_enter Try.func42, Try.ntmps42
    go_wp2
    go_ret
    exact ⟨ret_int (Pk.many_le h).symm, rfl⟩
  · have h' : 0 < n := by omega
    go_enter Try.func42, Try.ntmps42
    go_wp2
    go_ret
    refine ⟨ret_int ?_, rfl⟩
    rw [Pk.many_pos h']
set_option maxHeartbeats 1000000 in
theorem rmany_any (n : Int) (w : World) (h0 : -9223372036854775808 ≤ n) (h1 : n ≤ 9223372036854775807) : Calls Try.prog 29 #[.int .i64 n] w (Same (.int .i64 (Pk.many n)) w) := by
  have hbn := Pk.many_bd (n := n)
  have hM : Pk.many n ≤ 1152921504606846976 := by split at hbn <;> omega
  have HM := Lib.hid hM; clear hM hbn
  go_enter Try.func29, Try.ntmps29
  go_wp2
  go_loop [0, 3] (fun a k => ∃ (m : Int) (j : Nat), a = .int .i64 m ∧ k = .int .i64 j ∧ -9223372036854775808 ≤ m ∧ m ≤ n ∧ Pk.many n = Pk.many m + j) (fun a _ => (intOf a).toNat)
  case atStart => exact ⟨n, 0, rfl, rfl, h0, Int.le_refl _, by omega⟩
  case round =>
    obtain ⟨m, j, rfl, rfl, hm0, hm1, he⟩ := hrel
    have hj : (j : Int) ≤ 1152921504606846976 := by have := HM.out; have := (Pk.many_bd (n := m)).1; omega
    have He := Lib.hid he; clear he
    by_cases hp : 0 < m
    · go_wp2
      go_round
      case rel => exact ⟨m - 8, j + 1, by go_num, by go_num, by omega, by omega, by have := He.out; have := Pk.many_next hp; omega⟩
      case measure => simp [intOf]; omega
    · go_wp2
      go_ret
      refine ⟨ret_int ?_, rfl⟩
      have := He.out
      rw [Pk.many_le (n := m) (by omega)] at this
      omega
/-- What allZero answers. -/
def Zeros (xs : List Int) (w : World) (e : Ending) (w' : World) : Prop := ∃ t, e = .returned (.bool t) ∧ (t = true ↔ ∀ j (h : j < xs.length), xs[j] = 0) ∧ w = w'
set_option maxHeartbeats 1000000 in
theorem zero_any (xs : List Int) (A : Option Addr) (c : Nat) (w : World) (hl : xs.length ≤ 9223372036854775807) (h : Sl .u8 w w.heap.size A xs) : Calls Try.prog 59 #[.slice A xs.length c] w (Zeros xs w) := by
  go_enter Try.func59, Try.ntmps59
  go_wp2
  go_loop [4, 7] (fun _ i => ∃ k : Nat, k ≤ xs.length ∧ i = .int .i64 k ∧ ∀ j (h : j < xs.length), j < k → xs[j] = 0) (fun _ i => xs.length - (intOf i).toNat)
  case atStart => exact ⟨0, by omega, rfl, fun j _ hj => by omega⟩
  case round =>
    obtain ⟨k, hk, rfl, hz⟩ := hrel
    have Hz := Lib.hid hz; clear hz
    by_cases hlt : k < xs.length
    · rcases h with rfl | ⟨b, off, rfl, hb, hc⟩
      · simp at hlt
      have g1 := hc k hlt
      clear hc
      by_cases h0 : xs[k] = 0
      · have h0' : (xs[k] != 0) = false := by simp [h0]
        have H0 := Lib.hid h0; clear h0
        go_wp2
        go_round
        case rel =>
          refine ⟨k + 1, by omega, by go_num, fun j hj hjk => ?_⟩
          by_cases e : j = k
          · subst e; exact H0.out
          · exact Hz.out j hj (by omega)
        case measure => simp [intOf]; omega
      · have h0' : (xs[k] != 0) = true := by simp [h0]
        have H0 := Lib.hid h0; clear h0
        go_wp2
        go_ret
        exact ⟨false, rfl, ⟨fun h => (by cases h), fun h => absurd (h k hlt) H0.out⟩, rfl⟩
    · obtain rfl : k = xs.length := by omega
      go_wp2
      go_ret
      exact ⟨true, rfl, ⟨fun _ j hj => Hz.out j hj hj, fun _ => rfl⟩, rfl⟩
end Go.Proofs.Ytmpoaepkfjeecaa
