/-
  The walk of the law DigitBack: it returns true. By an AI agent.
-/
import Derived.Test.YtfbhoakolcolbaaDoorAwake
import Derived.Test.YtfbhoakolcolbaaDoorBackMath
namespace Go.Proofs.YtfbhoakolcolbaaDoor
open Go.RowKit
set_option maxRecDepth 100000 in
set_option maxHeartbeats 1000000 in
theorem back_walk (n m u k f : Int) (l1 l2 l3 : List UInt8) (q : Bool) (w : World) (hp : Pow w)
    (h1 : Hid (∀ w, Pow w → Calls Tryd.prog 13 #[.int .u64 u] w (Text l3 w))) (h2 : Hid (∀ w, Calls Tryd.prog 11 #[.string ⟨l3.toArray⟩] w (Two .u64 u 0 w)))
    (h3 : Hid (∀ w, Pow w → Calls Tryd.prog 8 #[.int .i64 n] w (Text l1 w))) (h4 : Hid (∀ w, Pow w → Calls Tryd.prog 8 #[.int .i64 m] w (Text l2 w)))
    (h5 : Hid (∀ w, Calls Tryd.prog 6 #[.string ⟨l1.toArray⟩, .int .i64 (-999999999999999999), .int .i64 999999999999999999] w (Two .i64 k f w)))
    (hq1 : (l1 == l2) = q) (hq2 : (n == m) = q)
    (hk : (n < -999999999999999999 ∧ f = 3) ∨ (999999999999999999 < n ∧ f = 3) ∨ (-999999999999999999 ≤ n ∧ n ≤ 999999999999999999 ∧ k = n ∧ f = 0)) :
    Calls Tryd.prog 5 #[.int .i64 n, .int .i64 m, .int .u64 u] w (Says true w) := by
  have Hp := Lib.hid hp; clear hp
  have Hk := Lib.hid hk; clear hk
  have eV : (u == u) = true := by simp
  go_enter Tryd.func5, Tryd.ntmps5
  go_wp2_with fail
  with_reducible refine (h1.out _ Hp.out).mono ?_
  rintro e w1 ⟨rfl, b1⟩
  go_wp2_with fail
  with_reducible refine (h2.out _).mono ?_
  rintro e w2 ⟨rfl, b2⟩
  have c2 := below_then b1 b2
  go_wp2_with fail
  with_reducible refine (h3.out _ (Hp.out.below c2)).mono ?_
  rintro e w3 ⟨rfl, b3⟩
  have c3 := below_then c2 b3
  go_wp2_with fail
  with_reducible refine (h4.out _ (Hp.out.below c3)).mono ?_
  rintro e w4 ⟨rfl, b4⟩
  have c4 := below_then c3 b4
  go_wp2_with fail
  with_reducible refine (h3.out _ (Hp.out.below c4)).mono ?_
  rintro e w5 ⟨rfl, b5⟩
  have c5 := below_then c4 b5
  go_wp2_with fail
  with_reducible refine (h5.out _).mono ?_
  rintro e w6 ⟨rfl, b6⟩
  have c6 := below_then c5 b6
  clear hq1 hq2
  rcases Hk.out with ⟨hlo, hf⟩ | ⟨hhi, hf⟩ | ⟨hlo, hhi, hkn, hf⟩
  · subst hf
    go_wp2_with fail
    with_reducible refine (awake_any _ (Hp.out.below c6)).mono ?_
    rintro e w7 ⟨rfl, b7⟩
    go_wp2
    go_ret
    exact ⟨rfl, below_then c6 b7⟩
  · subst hf
    go_wp2_with fail
    with_reducible refine (awake_any _ (Hp.out.below c6)).mono ?_
    rintro e w7 ⟨rfl, b7⟩
    go_wp2
    go_ret
    exact ⟨rfl, below_then c6 b7⟩
  · subst hf
    subst hkn
    go_wp2_with fail
    with_reducible refine (awake_any _ (Hp.out.below c6)).mono ?_
    rintro e w7 ⟨rfl, b7⟩
    go_wp2
    go_ret
    exact ⟨rfl, below_then c6 b7⟩
/-- ████ DigitBack: true. ████ -/
theorem back_any (n m u : Int) (w : World) (hn0 : -9223372036854775808 ≤ n) (hn1 : n ≤ 9223372036854775807) (hm0 : -9223372036854775808 ≤ m) (hm1 : m ≤ 9223372036854775807) (hu0 : 0 ≤ u) (hu1 : u ≤ 18446744073709551615) (hp : Pow w) :
    Calls Tryd.prog 5 #[.int .i64 n, .int .i64 m, .int .u64 u] w (Says true w) := by
  have hmx : maxLen = 9223372036854775807 := rfl
  have hw := Dg.back_word u.toNat (by omega)
  have h2 : ∀ w, Calls Tryd.prog 11 #[.string ⟨(Lib.decDigits u.toNat).toArray⟩] w (Two .u64 u 0 w) := fun w => by
    have hl : (⟨(Lib.decDigits u.toNat).toArray⟩ : ByteArray).size ≤ maxLen := by
      have h3 : (10 : Nat) ^ 20 = 100000000000000000000 := by decide
      have := Dg.dec_len_le u.toNat 20 (by omega) (by omega)
      have e : (⟨(Lib.decDigits u.toNat).toArray⟩ : ByteArray).size = (Lib.decDigits u.toNat).length := by simp [ByteArray.size]
      omega
    have h := word_any ⟨(Lib.decDigits u.toNat).toArray⟩ w hl
    unfold Word2 at h
    rw [show (⟨(Lib.decDigits u.toNat).toArray⟩ : ByteArray).data.toList = Lib.decDigits u.toNat by simp, hw.1, hw.2, Int.toNat_of_nonneg hu0] at h
    exact h
  have hl1 : (⟨(Lib.itoa n).toArray⟩ : ByteArray).size ≤ maxLen := by
    have := Dg.itoa_len n hn0 hn1
    have e : (⟨(Lib.itoa n).toArray⟩ : ByteArray).size = (Lib.itoa n).length := by simp [ByteArray.size]
    omega
  have h5 : ∀ w, Calls Tryd.prog 6 #[.string ⟨(Lib.itoa n).toArray⟩, .int .i64 (-999999999999999999), .int .i64 999999999999999999] w (Two .i64 (Dg.parseV (Lib.itoa n) (-999999999999999999) 999999999999999999) (Dg.parseE (Lib.itoa n) (-999999999999999999) 999999999999999999) w) := fun w => by
    have h := parse_any ⟨(Lib.itoa n).toArray⟩ (-999999999999999999) 999999999999999999 w hl1
    unfold CParse at h
    rw [show (⟨(Lib.itoa n).toArray⟩ : ByteArray).data.toList = Lib.itoa n by simp] at h
    exact h
  refine back_walk n m u _ _ (Lib.itoa n) (Lib.itoa m) (Lib.decDigits u.toNat) (n == m) w hp (fun w h => show_any u hu0 hu1 w h) h2 (fun w h => print_any n hn0 hn1 w h) (fun w h => print_any m hm0 hm1 w h) h5 (Dg.itoa_beq n m) rfl ?_
  by_cases hlo : n < -999999999999999999
  · exact Or.inl ⟨hlo, (Dg.back_out n (Or.inl hlo)).2⟩
  · by_cases hhi : 999999999999999999 < n
    · exact Or.inr (Or.inl ⟨hhi, (Dg.back_out n (Or.inr hhi)).2⟩)
    · have h := Dg.back_in n (by omega) (by omega)
      exact Or.inr (Or.inr ⟨by omega, by omega, h.1, h.2⟩)
end Go.Proofs.YtfbhoakolcolbaaDoor
