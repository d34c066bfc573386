/-
  Plain facts on what is printed and read again. By an AI agent.
-/
import Derived.Test.YtfbhoakolcolbaaDoorMath
namespace Go.Proofs.YtfbhoakolcolbaaDoor
namespace Dg
theorem signed_dec (u : Nat) : signed (Lib.decDigits u) = false := by
  have h := dec_all u
  have hp := dec_pos u
  unfold signed
  match hd : Lib.decDigits u, h, hp with
  | c :: l, h, _ =>
    rw [List.all_cons, Bool.and_eq_true, isDig_iff] at h
    simp only [List.getD_cons_zero, beq_eq_false_iff_ne]
    intro e
    rw [e] at h
    have : (45 : UInt8).toNat = 45 := rfl
    omega
theorem signed_neg (l : List UInt8) : signed (45 :: l) = true := by simp [signed]
theorem body_dec (u : Nat) : body (Lib.decDigits u) = Lib.decDigits u := body_plain (signed_dec u)
theorem body_neg (l : List UInt8) : body (45 :: l) = l := by rw [body_signed (signed_neg l)]; rfl
theorem itoa_inj {n m : Int} (h : Lib.itoa n = Lib.itoa m) : n = m := by
  unfold Lib.itoa at h
  by_cases hn : n < 0
  · rw [if_pos hn] at h
    by_cases hm : m < 0
    · rw [if_pos hm] at h
      have := dec_inj (List.cons.inj h).2
      omega
    · rw [if_neg hm] at h
      have h1 := signed_dec m.toNat
      rw [← h, signed_neg] at h1
      cases h1
  · rw [if_neg hn] at h
    by_cases hm : m < 0
    · rw [if_pos hm] at h
      have h1 := signed_dec n.toNat
      rw [h, signed_neg] at h1
      cases h1
    · rw [if_neg hm] at h
      have := dec_inj h
      omega
theorem itoa_beq (n m : Int) : (Lib.itoa n == Lib.itoa m) = (n == m) := by
  rw [Bool.eq_iff_iff, beq_iff_eq, beq_iff_eq]
  exact ⟨itoa_inj, fun h => by rw [h]⟩
theorem p18 : (10 : Nat) ^ 18 = 1000000000000000000 := by decide
theorem num_itoa (n : Int) : num (Lib.itoa n) = n := by
  unfold Lib.itoa
  by_cases hn : n < 0
  · rw [if_pos hn, num_signed (signed_neg _), body_neg, dec_val]; omega
  · rw [if_neg hn, num_plain (signed_dec _), body_dec, dec_val]; omega
theorem ok_itoa (n : Int) (h0 : -999999999999999999 ≤ n) (h1 : n ≤ 999999999999999999) : parseOk (Lib.itoa n) = true := by
  have hp := p18
  unfold Lib.itoa
  by_cases hn : n < 0
  · rw [if_pos hn]
    exact ok_signed (by rw [body_neg]; exact dec_wf _) (by rw [body_neg]; exact dec_len_le _ 18 (by omega) (by omega)) (by rw [body_neg, dec_val]; omega)
  · rw [if_neg hn]
    exact ok_plain (signed_dec _) (by rw [body_dec]; exact dec_wf _) (by rw [body_dec]; exact dec_len_le _ 18 (by omega) (by omega))
theorem no_itoa (n : Int) (h : n < -999999999999999999 ∨ 999999999999999999 < n) : parseOk (Lib.itoa n) = false := by
  have hp := p18
  unfold Lib.itoa
  by_cases hn : n < 0
  · rw [if_pos hn]
    exact ok_long (by rw [body_neg]; exact dec_len_gt _ 18 (by omega))
  · rw [if_neg hn]
    exact ok_long (by rw [body_dec]; exact dec_len_gt _ 18 (by omega))
theorem back_in (n : Int) (h0 : -999999999999999999 ≤ n) (h1 : n ≤ 999999999999999999) : parseV (Lib.itoa n) (-999999999999999999) 999999999999999999 = n ∧ parseE (Lib.itoa n) (-999999999999999999) 999999999999999999 = 0 := by
  have h := parse_in (ok_itoa n h0 h1) (a := -999999999999999999) (b := 999999999999999999) (by rw [num_itoa]; exact h0) (by rw [num_itoa]; exact h1)
  rw [num_itoa] at h
  exact h
theorem back_out (n : Int) (h : n < -999999999999999999 ∨ 999999999999999999 < n) : parseV (Lib.itoa n) (-999999999999999999) 999999999999999999 = 0 ∧ parseE (Lib.itoa n) (-999999999999999999) 999999999999999999 = 3 := parse_bad (no_itoa n h)
theorem back_word (u : Nat) (h : u < 18446744073709551616) : wordV (Lib.decDigits u) 20 = u ∧ wordE (Lib.decDigits u) 20 = 0 := by
  have h3 : (10 : Nat) ^ 20 = 100000000000000000000 := by decide
  have := word_ok (dec_wf u) (dec_len_le u 20 (by omega) (by omega)) (by rw [dec_val]; exact h)
  rw [dec_val] at this
  exact this
theorem itoa_len (n : Int) (h0 : -9223372036854775808 ≤ n) (h1 : n ≤ 9223372036854775807) : (Lib.itoa n).length ≤ 21 := by
  have h3 : (10 : Nat) ^ 20 = 100000000000000000000 := by decide
  unfold Lib.itoa
  by_cases hn : n < 0
  · rw [if_pos hn, List.length_cons]
    have := dec_len_le n.natAbs 20 (by omega) (by omega)
    omega
  · rw [if_neg hn]
    have := dec_len_le n.toNat 20 (by omega) (by omega)
    omega
end Dg
end Go.Proofs.YtfbhoakolcolbaaDoor
