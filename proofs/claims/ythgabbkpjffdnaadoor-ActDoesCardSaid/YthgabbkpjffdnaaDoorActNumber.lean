/-
  The walk of number. By an AI agent.
-/
import Derived.Test.YthgabbkpjffdnaaDoorActCut
import Derived.Test.YthgabbkpjffdnaaDoorDigitParse
set_option linter.unusedSimpArgs false
set_option linter.unusedVariables false
namespace Go.Proofs.YthgabbkpjffdnaaDoor
open Go.RowKit
/-- What a text is as the number of a field, and whether it is one. -/
def nv (cell : Bool) (t : List UInt8) : Nat := if cell then (Dt.Dg.parseV t 0 9223372036854775807).toNat else Dt.Dg.wordV t 20
def nk (cell : Bool) (t : List UInt8) : Bool := if cell then Dt.Dg.parseE t 0 9223372036854775807 == 0 else Dt.Dg.wordE t 20 == 0
theorem parse_bounds (t : List UInt8) : 0 ≤ Dt.Dg.parseV t 0 9223372036854775807 ∧ Dt.Dg.parseV t 0 9223372036854775807 ≤ 9223372036854775807 := by
  unfold Dt.Dg.parseV
  split
  · rename_i h
    simp only [Bool.and_eq_true, decide_eq_true_eq] at h
    exact ⟨h.1.2, h.2⟩
  · decide
theorem word_bounds (t : List UInt8) : Dt.Dg.wordV t 20 < 18446744073709551616 := by
  unfold Dt.Dg.wordV
  split
  · rename_i h
    simp only [Bool.and_eq_true, decide_eq_true_eq] at h
    exact h.2
  · decide
theorem nv_lt (cell : Bool) (t : List UInt8) : nv cell t < 18446744073709551616 := by
  unfold nv
  cases cell
  · exact word_bounds t
  · have := parse_bounds t; simp only [if_true]; omega
theorem nv_cell (t : List UInt8) : nv true t < 9223372036854775808 := by
  have := parse_bounds t; simp only [nv, if_true]; omega
set_option maxRecDepth 100000 in
set_option maxHeartbeats 4000000 in
theorem number_cell (s : ByteArray) (v e : Int) (h0 : 0 ≤ v) (h1 : v ≤ 9223372036854775807) (w : World) (K : ∀ w, Calls Tryd.prog 60 #[.string s, .int .i64 0, .int .i64 9223372036854775807] w (Gives (.tuple #[.int .i64 v, .int .i64 e]) w)) :
    Calls Tryd.prog 43 #[.int .i64 1, .string s] w (Gives (.tuple #[.int .u64 v, .bool (e == 0)]) w) := by
  have HK := Lib.hid K; clear K
  go_enter Tryd.func43, Tryd.ntmps43
  go_wp2_with fail
  with_reducible refine (HK.out _).mono ?_
  rintro e w1 ⟨rfl, hb⟩
  go_wp2
  go_ret2
  exact ⟨rfl, hb⟩
set_option maxRecDepth 100000 in
set_option maxHeartbeats 4000000 in
theorem number_word (f : Int) (hf : (f == 1) = false) (s : ByteArray) (v e : Int) (w : World) (K : ∀ w, Calls Tryd.prog 61 #[.string s] w (Gives (.tuple #[.int .u64 v, .int .i64 e]) w)) :
    Calls Tryd.prog 43 #[.int .i64 f, .string s] w (Gives (.tuple #[.int .u64 v, .bool (e == 0)]) w) := by
  have HK := Lib.hid K; clear K
  go_enter Tryd.func43, Tryd.ntmps43
  go_wp2_with fail
  with_reducible refine (HK.out _).mono ?_
  rintro e w1 ⟨rfl, hb⟩
  go_wp2
  go_ret2
  exact ⟨rfl, hb⟩
/-- ████ number. ████ -/
theorem number_any (f : Int) (s : ByteArray) (hs : s.size ≤ maxLen) (w : World) : Calls Tryd.prog 43 #[.int .i64 f, .string s] w (Gives (.tuple #[.int .u64 (nv (f == 1) s.data.toList : Int), .bool (nk (f == 1) s.data.toList)]) w) := by
  by_cases h : f = 1
  · subst h
    have hb := parse_bounds s.data.toList
    have := number_cell s _ _ hb.1 hb.2 w (fun w => (Dt.parse_any s 0 9223372036854775807 w hs).mono fun _ _ h => h)
    simp only [nv, nk, BEq.rfl, if_true]
    rw [Int.toNat_of_nonneg hb.1]
    exact this
  · have hf : (f == 1) = false := by simp [h]
    rw [hf]
    exact number_word f hf s _ _ w (fun w => (Dt.word_any s w hs).mono fun _ _ h => h)
end Go.Proofs.YthgabbkpjffdnaaDoor
