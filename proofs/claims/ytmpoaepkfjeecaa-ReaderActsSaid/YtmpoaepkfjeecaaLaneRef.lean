/-
  The walks of the document's own answers for bytes: Byte, Word, Bytes, With. By an AI agent.
-/
import Derived.Test.YtmpoaepkfjeecaaLaneByte
namespace Go.Proofs.Ytmpoaepkfjeecaa
open Go.RowKit
set_option maxHeartbeats 1000000 in
theorem rbyte_any (x i : Int) (w : World) (hx0 : 0 ≤ x) (hx1 : x ≤ 18446744073709551615) : Calls Try.prog 40 #[.int .u64 x, .int .i64 i] w fun e w' => e = .returned (.int .i64 (Ln.byt x i)) ∧ w = w' := by
  by_cases h : 0 ≤ i ∧ i < 8
  · obtain ⟨h0, h1⟩ := h
    have h2 : ¬ i < 0 := by omega
    have h3 : ¬ 7 < i := by omega
    go_enter Try.func40, Try.ntmps40
    go_wp2
    go_loop [0, 5] (fun u c => ∃ k : Nat, (k : Int) ≤ i ∧ c = .int .i64 k ∧ u = .int .u64 (x / 256 ^ k)) (fun _ c => (i - intOf c).toNat)
    case atStart => exact ⟨0, by omega, rfl, by simp⟩
    case round =>
      obtain ⟨k, hk, rfl, rfl⟩ := hrel
      have hp : 0 ≤ x / 256 ^ k := Int.ediv_nonneg hx0 (Int.le_of_lt (Int.pow_pos (by omega)))
      have hp1 : x / 256 ^ k ≤ 18446744073709551615 := Int.le_trans (Int.ediv_le_self _ hx0) hx1
      by_cases hlt : (k : Int) < i
      · go_wp2
        go_round
        case rel => exact ⟨k + 1, by omega, by go_num, by rw [Int.pow_succ, Int.ediv_ediv_of_nonneg (Int.le_of_lt (Int.pow_pos (by omega)))]⟩
        case measure => simp [intOf]; omega
      · obtain rfl : i = k := by omega
        go_wp2
        go_ret
        refine ⟨ret_int ?_, rfl⟩
        rw [Ln.byt_in h0 h1]
        simp
  · have h' : i < 0 ∨ 8 ≤ i := by omega
    rcases h' with h' | h'
    · go_enter Try.func40, Try.ntmps40
      go_wp2
      go_ret
      exact ⟨ret_int (Ln.byt_out (.inl h')).symm, rfl⟩
    · have h2 : ¬ i < 0 := by omega
      have h3 : 7 < i := by omega
      go_enter Try.func40, Try.ntmps40
      go_wp2
      go_ret
      exact ⟨ret_int (Ln.byt_out (.inr h')).symm, rfl⟩
theorem wrd8 (b0 b1 b2 b3 b4 b5 b6 b7 : Int) : Ln.wrd [b0, b1, b2, b3, b4, b5, b6, b7] = ((((((((0 * 256 + b7) * 256 + b6) * 256 + b5) * 256 + b4) * 256 + b3) * 256 + b2) * 256 + b1) * 256 + b0) := rfl
theorem bts8 (x : Int) : Ln.bts x = [Ln.byt x 0, Ln.byt x 1, Ln.byt x 2, Ln.byt x 3, Ln.byt x 4, Ln.byt x 5, Ln.byt x 6, Ln.byt x 7] := by simp [Ln.bts, List.range, List.range.loop]
end Go.Proofs.Ytmpoaepkfjeecaa
