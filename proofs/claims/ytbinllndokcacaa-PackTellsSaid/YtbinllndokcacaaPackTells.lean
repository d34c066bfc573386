/-
  The walk of PackTells. By an AI agent.
-/
import Derived.Test.YtbinllndokcacaaPackAwake
namespace Go.Proofs.Ytbinllndokcacaa
open Go.RowKit
set_option maxHeartbeats 1000000 in
theorem tells_long (s : ByteArray) (A : Option Addr) (len c : Nat) (n : Int) (w : World) (hs : s.size ≤ maxLen) (hl : len ≤ maxLen) (h : 2000 < s.size ∨ 250 < len ∨ 100000 < n) :
    Calls Try.prog 3 #[.string s, .slice A len c, .int .i64 n] w (Gives (.bool true) w) := by
  unfold maxLen at hs hl
  by_cases h1 : 2000 < s.size
  · go_enter Try.func3, Try.ntmps3
    go_wp2_with (go_at_call 5; refine (awake_any _).mono ?_; rintro e w' ⟨rfl, hb⟩)
    go_ret
    exact ⟨rfl, hb⟩
  · by_cases h2 : 250 < len
    · clear h
      go_enter Try.func3, Try.ntmps3
      go_wp2_with (go_at_call 5; refine (awake_any _).mono ?_; rintro e w' ⟨rfl, hb⟩)
      go_ret
      exact ⟨rfl, hb⟩
    · have h3 : 100000 < n := by omega
      clear h
      go_enter Try.func3, Try.ntmps3
      go_wp2_with (go_at_call 5; refine (awake_any _).mono ?_; rintro e w' ⟨rfl, hb⟩)
      go_ret
      exact ⟨rfl, hb⟩
set_option maxRecDepth 100000 in
set_option maxHeartbeats 4000000 in
theorem tells_short (s : ByteArray) (l : List Int) (A : Option Addr) (c : Nat) (n : Int) (w : World) (hs : s.size ≤ 2000) (hl : l.length ≤ 250) (hn0 : -9223372036854775808 ≤ n) (hn1 : n ≤ 100000)
    (hx : ∀ x ∈ l, 0 ≤ x ∧ x ≤ 18446744073709551615) (h : Sl .u64 w w.heap.size A l) :
    Calls Try.prog 3 #[.string s, .slice A l.length c, .int .i64 n] w (Gives (.bool true) w) := by
  obtain ⟨T, t, P1, P2⟩ : ∃ (T : ByteArray) (t : Bool), (∀ w, Sl .u64 w w.heap.size A l → Calls Try.prog 6 #[.slice A l.length c, .int .i64 n] w (Gives (.tuple #[.string T, .bool t]) w)) ∧
      (∀ w, Sl .u64 w w.heap.size A l → Calls Try.prog 7 #[.slice A l.length c, .int .i64 n] w (Gives (.tuple #[.string T, .bool t]) w)) := by
    by_cases hg : Pk.Good l n
    · exact ⟨_, _, fun w h => text_good l A c n w (by omega) hx h hg, fun w h => rtext_good l A c n w (by omega) hx h hg⟩
    · exact ⟨_, _, fun w h => text_bad l A c n w (by omega) hx h (by omega) hg, fun w h => rtext_bad l A c n w (by omega) hx h hg⟩
  have W1 := fun w => words_any s w (by omega)
  have W2 := fun w => rwords_any s w (by omega)
  have hwl : (Pk.words s.data.toList).length ≤ 9223372036854775807 := by rw [Pk.words_len, ba_len]; unfold Pk.cnt; omega
  generalize Pk.words s.data.toList = ws at W1 W2 hwl
  have S := fun (w : World) A A' c c' h h' => words_same ws A A' c c' w hwl h h'
  have M1 := fun w => many_any n w hn0 (by omega)
  have M2 := fun w => rmany_any n w hn0 (by omega)
  generalize Pk.many n = m at M1 M2
  have hm : (m == m) = true := by simp
  have HP1 := Lib.hid P1; clear P1
  have HP2 := Lib.hid P2; clear P2
  have HW1 := Lib.hid W1; clear W1
  have HW2 := Lib.hid W2; clear W2
  have HS := Lib.hid S; clear S
  have HM1 := Lib.hid M1; clear M1
  have HM2 := Lib.hid M2; clear M2
  have a1 : ¬ (2000 : Int) < (s.size : Int) := by omega
  have a2 : ¬ (250 : Int) < (l.length : Int) := by omega
  have a3 : ¬ (100000 : Int) < n := by omega
  clear hx hwl
  go_enter Try.func3, Try.ntmps3
  go_wp2_with fail
  with_reducible refine (HP1.out _ h).mono ?_
  rintro e w1 ⟨rfl, hb1⟩
  have h1 := (h.below hb1).mono hb1.size
  go_wp2_with fail
  with_reducible refine (HP2.out _ h1).mono ?_
  rintro e w2 ⟨rfl, hb2⟩
  have hB2 : Below w.heap.size w w2 := below_then hb1 hb2
  clear h1 hb1 hb2
  go_wp2_with fail
  with_reducible refine (HW1.out _).mono ?_
  rintro e w3 ⟨A3, c3, rfl, hsl3, hb3⟩
  have hB3 : Below w.heap.size w w3 := below_then hB2 hb3
  clear hb3 hB2
  go_wp2_with fail
  with_reducible refine (HW2.out _).mono ?_
  rintro e w4 ⟨A4, c4, rfl, hsl4, hb4⟩
  have hB4 : Below w.heap.size w w4 := below_then hB3 hb4
  have hsl3' := (hsl3.below hb4).mono hb4.size
  clear hb4 hB3 hsl3
  go_wp2_with fail
  with_reducible refine (HS.out _ _ _ _ _ hsl3' hsl4).mono ?_
  rintro e w5 ⟨rfl, hb5⟩
  have hB5 : Below w.heap.size w w5 := below_then hB4 hb5
  clear hb5 hB4 hsl3' hsl4
  go_wp2_with fail
  with_reducible refine (HM1.out _).mono ?_
  rintro e w6 ⟨rfl, rfl⟩
  go_wp2_with fail
  with_reducible refine (HM2.out _).mono ?_
  rintro e w6 ⟨rfl, rfl⟩
  go_wp2_with fail
  with_reducible refine (awake_any _).mono ?_
  rintro e w6 ⟨rfl, hb6⟩
  go_wp2
  go_ret
  exact ⟨rfl, below_then hB5 hb6⟩
end Go.Proofs.Ytbinllndokcacaa
