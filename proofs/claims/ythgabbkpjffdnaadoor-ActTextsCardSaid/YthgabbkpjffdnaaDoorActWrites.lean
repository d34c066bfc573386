/-
  Writes and the document's Writes. By an AI agent.
-/
import Derived.Test.YthgabbkpjffdnaaDoorActRightAny
set_option linter.unusedSimpArgs false
set_option linter.unusedVariables false
namespace Go.Proofs.YthgabbkpjffdnaaDoor
open Go.RowKit
open Ac (A)
set_option maxRecDepth 100000 in
set_option maxHeartbeats 4000000 in
theorem writes_no (x : A) (w : World) (h2 : (x.k == 2) = false) (h3 : (x.k == 3) = false) (h4 : (x.k == 4) = false) : Calls Tryd.prog 12 #[av x] w (Gives (.bool false) w) := by
  have HB := Lib.hid (boxed_below w x)
  go_enter Tryd.func12, Tryd.ntmps12
  go_wp2
  go_ret
  exact ⟨rfl, HB.out⟩
set_option maxRecDepth 100000 in
set_option maxHeartbeats 4000000 in
theorem writes_2 (b : Nat) (c : Int) (o n : Nat) (r : Bool) (w : World) (K : ∀ w, Calls Tryd.prog 10 #[av ⟨2, b, c, o, n⟩] w (Gives (.bool r) w)) : Calls Tryd.prog 12 #[.agg #[.int .i64 2, .int .u64 (b : Int), .int .i64 c, .int .u64 (o : Int), .int .u64 (n : Int)]] w (Gives (.bool r) w) := by
  have HB := Lib.hid (boxed_below w (⟨2, b, c, o, n⟩ : A))
  have HK := Lib.hid K; clear K
  go_enter Tryd.func12, Tryd.ntmps12
  go_wp2_with fail
  with_reducible refine (HK.out _).mono ?_
  rintro e w1 ⟨rfl, hb⟩
  go_wp2
  go_ret
  exact ⟨rfl, HB.out.trans (hb.mono HB.out.size)⟩
set_option maxRecDepth 100000 in
set_option maxHeartbeats 4000000 in
theorem writes_3 (b : Nat) (c : Int) (o n : Nat) (r : Bool) (w : World) (K : ∀ w, Calls Tryd.prog 10 #[av ⟨3, b, c, o, n⟩] w (Gives (.bool r) w)) : Calls Tryd.prog 12 #[.agg #[.int .i64 3, .int .u64 (b : Int), .int .i64 c, .int .u64 (o : Int), .int .u64 (n : Int)]] w (Gives (.bool r) w) := by
  have HB := Lib.hid (boxed_below w (⟨3, b, c, o, n⟩ : A))
  have HK := Lib.hid K; clear K
  go_enter Tryd.func12, Tryd.ntmps12
  go_wp2_with fail
  with_reducible refine (HK.out _).mono ?_
  rintro e w1 ⟨rfl, hb⟩
  go_wp2
  go_ret
  exact ⟨rfl, HB.out.trans (hb.mono HB.out.size)⟩
set_option maxRecDepth 100000 in
set_option maxHeartbeats 4000000 in
theorem writes_4 (b : Nat) (c : Int) (o n : Nat) (r : Bool) (w : World) (K : ∀ w, Calls Tryd.prog 10 #[av ⟨4, b, c, o, n⟩] w (Gives (.bool r) w)) : Calls Tryd.prog 12 #[.agg #[.int .i64 4, .int .u64 (b : Int), .int .i64 c, .int .u64 (o : Int), .int .u64 (n : Int)]] w (Gives (.bool r) w) := by
  have HB := Lib.hid (boxed_below w (⟨4, b, c, o, n⟩ : A))
  have HK := Lib.hid K; clear K
  go_enter Tryd.func12, Tryd.ntmps12
  go_wp2_with fail
  with_reducible refine (HK.out _).mono ?_
  rintro e w1 ⟨rfl, hb⟩
  go_wp2
  go_ret
  exact ⟨rfl, HB.out.trans (hb.mono HB.out.size)⟩
/-- ████ Writes. ████ -/
theorem writes_any (x : A) (h1 : x.c ≤ 9223372036854775807) (w : World) : Calls Tryd.prog 12 #[av x] w (Gives (.bool (Ac.writes x)) w) := by
  obtain ⟨k, b, c, o, n⟩ := x
  by_cases h2 : k = 2
  · subst h2; exact writes_2 b c o n _ w fun w => right_any _ h1 w
  by_cases h3 : k = 3
  · subst h3; exact writes_3 b c o n _ w fun w => right_any _ h1 w
  by_cases h4 : k = 4
  · subst h4; exact writes_4 b c o n _ w fun w => right_any _ h1 w
  have e : Ac.writes ⟨k, b, c, o, n⟩ = false := by simp [Ac.writes, Ac.fn, h2, h3, h4]
  rw [e]
  exact writes_no _ w (by simp [h2]) (by simp [h3]) (by simp [h4])
set_option maxRecDepth 100000 in
set_option maxHeartbeats 4000000 in
theorem rwrites_no (x : A) (w : World) (K : ∀ w, Calls Tryd.prog 11 #[av x] w (Gives (.bool false) w)) : Calls Tryd.prog 13 #[av x] w (Gives (.bool false) w) := by
  have HB := Lib.hid (boxed_below w x)
  have HK := Lib.hid K; clear K
  go_enter Tryd.func13, Tryd.ntmps13
  go_wp2_with fail
  with_reducible refine (HK.out _).mono ?_
  rintro e w1 ⟨rfl, hb⟩
  go_wp2
  go_ret
  exact ⟨rfl, HB.out.trans (hb.mono HB.out.size)⟩
set_option maxRecDepth 100000 in
set_option maxHeartbeats 4000000 in
theorem rwrites_low (x : A) (w : World) (h : x.k < 2) (K : ∀ w, Calls Tryd.prog 11 #[av x] w (Gives (.bool true) w)) : Calls Tryd.prog 13 #[av x] w (Gives (.bool false) w) := by
  have HB := Lib.hid (boxed_below w x)
  have HK := Lib.hid K; clear K
  have h' : ¬ 2 ≤ x.k := by omega
  go_enter Tryd.func13, Tryd.ntmps13
  go_wp2_with fail
  with_reducible refine (HK.out _).mono ?_
  rintro e w1 ⟨rfl, hb⟩
  obtain ⟨c0, c1, c2, c3, c4⟩ := boxed_cells hb
  go_wp2
  go_ret
  exact ⟨by simp [h], HB.out.trans (hb.mono HB.out.size)⟩
set_option maxRecDepth 100000 in
set_option maxHeartbeats 4000000 in
theorem rwrites_high (x : A) (w : World) (h : 2 ≤ x.k) (K : ∀ w, Calls Tryd.prog 11 #[av x] w (Gives (.bool true) w)) : Calls Tryd.prog 13 #[av x] w (Gives (.bool (decide (x.k ≤ 4))) w) := by
  have HB := Lib.hid (boxed_below w x)
  have HK := Lib.hid K; clear K
  go_enter Tryd.func13, Tryd.ntmps13
  go_wp2_with fail
  with_reducible refine (HK.out _).mono ?_
  rintro e w1 ⟨rfl, hb⟩
  obtain ⟨c0, c1, c2, c3, c4⟩ := boxed_cells hb
  go_wp2
  go_ret
  exact ⟨rfl, HB.out.trans (hb.mono HB.out.size)⟩
/-- ████ The document's Writes. ████ -/
theorem rwrites_any (x : A) (w : World) : Calls Tryd.prog 13 #[av x] w (Gives (.bool (Ac.writes x)) w) := by
  have K := fun w => rright_any x w
  cases hr : Ac.right x with
  | false =>
    rw [hr] at K
    have e : Ac.writes x = false := by simp [Ac.writes, hr]
    rw [e]; exact rwrites_no x w K
  | true =>
    rw [hr] at K
    by_cases h : x.k < 2
    · have e : Ac.writes x = false := by simp [Ac.writes, Ac.fn]; intro h'; omega
      rw [e]; exact rwrites_low x w h K
    · have e : Ac.writes x = decide (x.k ≤ 4) := by
        have : x.k = 2 ∨ x.k = 3 ∨ x.k = 4 ∨ 4 < x.k := by omega
        rcases this with h | h | h | h
        · simp [Ac.writes, Ac.fn, hr, h]
        · simp [Ac.writes, Ac.fn, hr, h]
        · simp [Ac.writes, Ac.fn, hr, h]
        · rw [decide_eq_false (by omega)]; simp [Ac.writes, Ac.fn]; intro h'; omega
      rw [e]; exact rwrites_high x w (by omega) K
end Go.Proofs.YthgabbkpjffdnaaDoor
