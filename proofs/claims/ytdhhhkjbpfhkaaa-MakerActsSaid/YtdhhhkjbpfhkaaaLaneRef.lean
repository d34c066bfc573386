/-
  The walks of the document's own answers for bytes: Byte, Word, Bytes, With. By an AI agent.
-/
import Derived.Test.YtdhhhkjbpfhkaaaLaneByte
namespace Go.Proofs.Ytdhhhkjbpfhkaaa
open Go.RowKit
set_option maxHeartbeats 1000000 in
theorem rbyte_any (x i : Int) (w : World) (hx0 : 0 ≤ x) (hx1 : x ≤ 18446744073709551615) : Calls Try.prog 52 #[.int .u64 x, .int .i64 i] w fun e w' => e = .returned (.int .i64 (Ln.byt x i)) ∧ w = w' := by
  by_cases h : 0 ≤ i ∧ i < 8
  · obtain ⟨h0, h1⟩ := h
    have h2 : ¬ i < 0 := by omega
    have h3 : ¬ 7 < i := by omega
    go_enter Try.func52, Try.ntmps52
    go_wp2
    go_loop [0, 5] (fun u c => ∃ k : Nat, (k : Int) ≤ i ∧ c = .int .i64 k ∧ u = .int .u64 (x / 256 ^ k)) (fun _ c => (i - intOf c).toNat)
    case atStart => exact ⟨0, by omega, rfl, by simp⟩
    case round =>
      obtain ⟨k, hk, rfl, rfl⟩ := hrel
      have hp : 0 ≤ x / 256 ^ k := Int.ediv_nonneg hx0 (Int.le_of_lt (Int.pow_pos (by omega)))
      have hp1 : x / 256 ^ k ≤ 18446744073709551615 := Int.le_trans (Int.ediv_le_self _ hx0) hx1
      by_cases hlt : (k : Int) < i
      · go_wp2
        go_round
        case rel => exact ⟨k + 1, by omega, by go_num, by rw [Int.pow_succ, Int.ediv_ediv_of_nonneg (Int.le_of_lt (Int.pow_pos (by omega)))]⟩
        case measure => simp [intOf]; omega
      · obtain rfl : i = k := by omega
        go_wp2
        go_ret
        refine ⟨ret_int ?_, rfl⟩
        rw [Ln.byt_in h0 h1]
        simp
  · have h' : i < 0 ∨ 8 ≤ i := by omega
    rcases h' with h' | h'
    · go_enter Try.func52, Try.ntmps52
      go_wp2
      go_ret
      exact ⟨ret_int (Ln.byt_out (.inl h')).symm, rfl⟩
    · have h2 : ¬ i < 0 := by omega
      have h3 : 7 < i := by omega
      go_enter Try.func52, Try.ntmps52
      go_wp2
      go_ret
      exact ⟨ret_int (Ln.byt_out (.inr h')).symm, rfl⟩
set_option maxRecDepth 100000 in
set_option maxHeartbeats 2000000 in
theorem rbytes_any (x : Int) (w : World) (hx0 : 0 ≤ x) (hx1 : x ≤ 18446744073709551615) : Calls Try.prog 42 #[.int .u64 x] w fun e w' => e = .returned (.agg #[.int .i64 (Ln.byt x 0), .int .i64 (Ln.byt x 1), .int .i64 (Ln.byt x 2), .int .i64 (Ln.byt x 3), .int .i64 (Ln.byt x 4), .int .i64 (Ln.byt x 5), .int .i64 (Ln.byt x 6), .int .i64 (Ln.byt x 7)]) ∧ Below w.heap.size w w' := by
  go_enter Try.func42, Try.ntmps42
  go_wp2
  refine wp_loop_rounds 9 ?_
  iterate 8
    rw [rounds_succ]
    go_wp2_with (go_at_call 52; refine (rbyte_any _ _ _ hx0 hx1).mono ?_; rintro e w' ⟨rfl, rfl⟩)
  rw [rounds_succ]
  go_wp2
  exact bodyPost_ret (v := .agg #[.int .i64 (Ln.byt x 0), .int .i64 (Ln.byt x 1), .int .i64 (Ln.byt x 2), .int .i64 (Ln.byt x 3), .int .i64 (Ln.byt x 4), .int .i64 (Ln.byt x 5), .int .i64 (Ln.byt x 6), .int .i64 (Ln.byt x 7)]) (by simp [results, Try.results42, go_sem]) rfl ⟨rfl, ((Below.refl _ _).alloc (Nat.le_refl _) _).alloc (by simp) _⟩
theorem wrd8 (b0 b1 b2 b3 b4 b5 b6 b7 : Int) : Ln.wrd [b0, b1, b2, b3, b4, b5, b6, b7] = ((((((((0 * 256 + b7) * 256 + b6) * 256 + b5) * 256 + b4) * 256 + b3) * 256 + b2) * 256 + b1) * 256 + b0) := rfl
set_option maxRecDepth 100000 in
set_option maxHeartbeats 2000000 in
theorem rword_any (b0 b1 b2 b3 b4 b5 b6 b7 : Int) (w : World) (h0 : 0 ≤ b0 ∧ b0 ≤ 255) (h1 : 0 ≤ b1 ∧ b1 ≤ 255) (h2 : 0 ≤ b2 ∧ b2 ≤ 255) (h3 : 0 ≤ b3 ∧ b3 ≤ 255) (h4 : 0 ≤ b4 ∧ b4 ≤ 255) (h5 : 0 ≤ b5 ∧ b5 ≤ 255) (h6 : 0 ≤ b6 ∧ b6 ≤ 255) (h7 : 0 ≤ b7 ∧ b7 ≤ 255) :
    Calls Try.prog 43 #[.agg #[.int .i64 b0, .int .i64 b1, .int .i64 b2, .int .i64 b3, .int .i64 b4, .int .i64 b5, .int .i64 b6, .int .i64 b7]] w fun e w' => e = .returned (.int .u64 (Ln.wrd [b0, b1, b2, b3, b4, b5, b6, b7])) ∧ Below w.heap.size w w' := by
  go_enter Try.func43, Try.ntmps43
  go_wp2
  refine wp_loop_rounds 9 ?_
  iterate 8
    rw [rounds_succ]
    go_wp2
  rw [rounds_succ]
  go_wp2
  go_ret
  refine ⟨ret_int ?_, (Below.refl _ _).alloc (Nat.le_refl _) _⟩
  rw [wrd8]
  omega
theorem bts8 (x : Int) : Ln.bts x = [Ln.byt x 0, Ln.byt x 1, Ln.byt x 2, Ln.byt x 3, Ln.byt x 4, Ln.byt x 5, Ln.byt x 6, Ln.byt x 7] := by simp [Ln.bts, List.range, List.range.loop]
set_option maxRecDepth 100000 in
set_option maxHeartbeats 4000000 in
theorem rwith_in (x i b : Int) (w : World) (hx0 : 0 ≤ x) (hx1 : x ≤ 18446744073709551615) (h0 : 0 ≤ i) (h1 : i < 8) (b0 : 0 ≤ b) (b1 : b ≤ 255) : Calls Try.prog 35 #[.int .u64 x, .int .i64 i, .int .i64 b] w fun e w' => e = .returned (.int .u64 (Ln.wth x i b)) ∧ Below w.heap.size w w' := by
  have hw := Ln.wrd_set hx0 hx1 h0 h1 b0 b1
  rw [bts8] at hw
  have Hw := Lib.hid hw; clear hw
  have c0 := Ln.byt_bd' (x := x) (i := 0) (by omega) (by omega)
  have c1 := Ln.byt_bd' (x := x) (i := 1) (by omega) (by omega)
  have c2 := Ln.byt_bd' (x := x) (i := 2) (by omega) (by omega)
  have c3 := Ln.byt_bd' (x := x) (i := 3) (by omega) (by omega)
  have c4 := Ln.byt_bd' (x := x) (i := 4) (by omega) (by omega)
  have c5 := Ln.byt_bd' (x := x) (i := 5) (by omega) (by omega)
  have c6 := Ln.byt_bd' (x := x) (i := 6) (by omega) (by omega)
  have c7 := Ln.byt_bd' (x := x) (i := 7) (by omega) (by omega)
  rcases Ln.eight h0 h1 with rfl | rfl | rfl | rfl | rfl | rfl | rfl | rfl
  all_goals
    go_enter Try.func35, Try.ntmps35
    go_wp2_with fail
    with_reducible refine (rbytes_any _ _ hx0 hx1).mono ?_
    rintro e w1 ⟨rfl, hb1⟩
    go_wp2_with fail
    with_reducible refine (rword_any _ _ _ _ _ _ _ _ _ ?_ ?_ ?_ ?_ ?_ ?_ ?_ ?_).mono ?_
    iterate 8 (first | assumption | exact ⟨b0, b1⟩)
    rintro e w2 ⟨rfl, hb2⟩
    go_wp2
    go_ret
    exact ⟨ret_int Hw.out, below_then (hb1.alloc hb1.size _) hb2⟩
theorem rwith_any (x i b : Int) (w : World) (hx0 : 0 ≤ x) (hx1 : x ≤ 18446744073709551615) : Calls Try.prog 35 #[.int .u64 x, .int .i64 i, .int .i64 b] w fun e w' => e = .returned (.int .u64 (Ln.wth x i b)) ∧ Below w.heap.size w w' := by
  by_cases h : 0 ≤ i
  · have h' : ¬ i < 0 := by omega
    by_cases h2 : 7 < i
    · go_enter Try.func35, Try.ntmps35
      go_wp2
      go_ret
      exact ⟨ret_int (Ln.wth_out (.inl (by omega))).symm, Below.refl _ _⟩
    · by_cases h3 : b < 0
      · go_enter Try.func35, Try.ntmps35
        go_wp2
        go_ret
        exact ⟨ret_int (Ln.wth_out (.inr (by omega))).symm, Below.refl _ _⟩
      · by_cases h4 : 255 < b
        · go_enter Try.func35, Try.ntmps35
          go_wp2
          go_ret
          exact ⟨ret_int (Ln.wth_out (.inr (by omega))).symm, Below.refl _ _⟩
        · exact rwith_in x i b w hx0 hx1 h (by omega) (by omega) (by omega)
  · have h' : i < 0 := by omega
    go_enter Try.func35, Try.ntmps35
    go_wp2
    go_ret
    exact ⟨ret_int (Ln.wth_out (.inl (by omega))).symm, Below.refl _ _⟩
end Go.Proofs.Ytdhhhkjbpfhkaaa
