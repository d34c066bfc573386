/-
  The walk of PackBack. By an AI agent.
-/
import Derived.Test.YtbinllndokcacaaPackAwake
namespace Go.Proofs.Ytbinllndokcacaa
open Go.RowKit
set_option maxHeartbeats 1000000 in
theorem back_long (s : ByteArray) (A : Option Addr) (len c : Nat) (n : Int) (w : World) (hs : s.size ≤ maxLen) (hl : len ≤ maxLen) (h : 2000 < s.size ∨ 250 < len) :
    Calls Try.prog 4 #[.string s, .slice A len c, .int .i64 n] w (Gives (.bool true) w) := by
  unfold maxLen at hs hl
  by_cases h1 : 2000 < s.size
  · go_enter Try.func4, Try.ntmps4
    go_wp2_with (go_at_call 5; refine (awake_any _).mono ?_; rintro e w' ⟨rfl, hb⟩)
    go_ret
    exact ⟨rfl, hb⟩
  · have h2 : 250 < len := by omega
    clear h
    go_enter Try.func4, Try.ntmps4
    go_wp2_with (go_at_call 5; refine (awake_any _).mono ?_; rintro e w' ⟨rfl, hb⟩)
    go_ret
    exact ⟨rfl, hb⟩
theorem ba_back (s : ByteArray) : (⟨s.data.toList.toArray⟩ : ByteArray) = s := by cases s; simp
theorem ba_size (bs : List UInt8) : (⟨bs.toArray⟩ : ByteArray).size = bs.length := by simp [ByteArray.size]
set_option maxRecDepth 100000 in
set_option maxHeartbeats 4000000 in
theorem back_short (s : ByteArray) (l : List Int) (A : Option Addr) (c : Nat) (n : Int) (w : World) (hs : s.size ≤ 2000) (hl : l.length ≤ 250) (hn1 : n ≤ 9223372036854775807)
    (hx : ∀ x ∈ l, 0 ≤ x ∧ x ≤ 18446744073709551615) (h : Sl .u64 w w.heap.size A l) :
    Calls Try.prog 4 #[.string s, .slice A l.length c, .int .i64 n] w (Gives (.bool true) w) := by
  have W1 := fun w => words_any s w (by omega)
  have hwl : (Pk.words s.data.toList).length ≤ 251 := by rw [Pk.words_len, ba_len]; unfold Pk.cnt; omega
  have T1 : ∀ w A c, Sl .u64 w w.heap.size A (Pk.words s.data.toList) → Calls Try.prog 6 #[.slice A (Pk.words s.data.toList).length c, .int .i64 (s.size : Int)] w (Gives (.tuple #[.string s, .bool true]) w) := fun w A c h => by
    have := text_good (Pk.words s.data.toList) A c s.data.toList.length w (by omega) Pk.words_wf h (Pk.good_words _)
    rw [Int.toNat_natCast, Pk.txt_words, ba_len] at this
    unfold some2 at this
    rwa [ba_back] at this
  have M : ∀ w, Calls Try.prog 11 #[.int .i64 (s.size : Int)] w (Same (.int .i64 ((Pk.words s.data.toList).length : Int)) w) := fun w => by
    have := many_any (s.size : Int) w (by omega) (by omega)
    rwa [← Pk.cnt_many, ← ba_len, ← Pk.words_len, ba_len] at this
  generalize Pk.words s.data.toList = ws at W1 T1 M hwl
  have hne : ((ws.length : Int) != (ws.length : Int)) = false := by simp
  have HW1 := Lib.hid W1; clear W1
  have HT1 := Lib.hid T1; clear T1
  have HM := Lib.hid M; clear M
  have a1 : ¬ (2000 : Int) < (s.size : Int) := by omega
  have a2 : ¬ (250 : Int) < (l.length : Int) := by omega
  by_cases hg : Pk.Good l n
  · have P1 := fun w h => text_good l A c n w (by omega) hx h hg
    have h0 := hg.1
    obtain ⟨k, rfl⟩ := Int.eq_ofNat_of_zero_le h0
    have hk : k ≤ 2000 := by have := hg.2.1; have := (Pk.many_bd (n := k)).2.2; omega
    have W2 : ∀ w, Calls Try.prog 9 #[.string ⟨(Pk.txt l k).toArray⟩] w (WordsOf l w) := fun w => by
      have := words_any ⟨(Pk.txt l k).toArray⟩ w (by rw [ba_size, Pk.txt_len]; omega)
      rwa [show (ByteArray.mk (Pk.txt l k).toArray).data.toList = Pk.txt l k from rfl, Pk.words_txt hx hg] at this
    have S := fun (w : World) A A' c c' h h' => words_same l A A' c c' w (by omega) h h'
    have hsz : (ByteArray.mk (Pk.txt l k).toArray).size = k := by rw [ba_size, Pk.txt_len]
    rw [Int.toNat_natCast] at P1
    unfold some2 at P1
    generalize ByteArray.mk (Pk.txt l k).toArray = u at P1 W2 hsz
    subst hsz
    have HP1 := Lib.hid P1; clear P1
    have HW2 := Lib.hid W2; clear W2
    have HS := Lib.hid S; clear S
    clear hg hx h0
    go_enter Try.func4, Try.ntmps4
    go_wp2_with fail
    with_reducible refine (HW1.out _).mono ?_
    rintro e w1 ⟨A1, c1, rfl, hsl1, hb1⟩
    go_wp2_with fail
    with_reducible refine (HT1.out _ _ _ hsl1).mono ?_
    rintro e w2 ⟨rfl, hb2⟩
    have hB2 : Below w.heap.size w w2 := below_then hb1 hb2
    clear hsl1 hb1 hb2
    go_wp2_with fail
    with_reducible refine (HM.out _).mono ?_
    rintro e w3 ⟨rfl, rfl⟩
    go_wp2_with fail
    with_reducible refine (HP1.out _ ((h.below hB2).mono hB2.size)).mono ?_
    rintro e w3 ⟨rfl, hb3⟩
    have hB3 : Below w.heap.size w w3 := below_then hB2 hb3
    clear hb3 hB2
    go_wp2_with fail
    with_reducible refine (HW2.out _).mono ?_
    rintro e w4 ⟨A4, c4, rfl, hsl4, hb4⟩
    have hB4 : Below w.heap.size w w4 := below_then hB3 hb4
    clear hb4 hB3
    go_wp2_with fail
    with_reducible refine (HS.out _ _ _ _ _ hsl4 ((h.below hB4).mono hB4.size)).mono ?_
    rintro e w5 ⟨rfl, hb5⟩
    have hB5 : Below w.heap.size w w5 := below_then hB4 hb5
    clear hb5 hB4 hsl4
    go_wp2_with fail
    with_reducible refine (awake_any _).mono ?_
    rintro e w6 ⟨rfl, hb6⟩
    go_wp2
    go_ret
    exact ⟨rfl, below_then hB5 hb6⟩
  · have P1 := fun w h => text_bad l A c n w (by omega) hx h hn1 hg
    unfold none2 at P1
    have HP1 := Lib.hid P1; clear P1
    clear hg hx
    go_enter Try.func4, Try.ntmps4
    go_wp2_with fail
    with_reducible refine (HW1.out _).mono ?_
    rintro e w1 ⟨A1, c1, rfl, hsl1, hb1⟩
    go_wp2_with fail
    with_reducible refine (HT1.out _ _ _ hsl1).mono ?_
    rintro e w2 ⟨rfl, hb2⟩
    have hB2 : Below w.heap.size w w2 := below_then hb1 hb2
    clear hsl1 hb1 hb2
    go_wp2_with fail
    with_reducible refine (HM.out _).mono ?_
    rintro e w3 ⟨rfl, rfl⟩
    go_wp2_with fail
    with_reducible refine (HP1.out _ ((h.below hB2).mono hB2.size)).mono ?_
    rintro e w3 ⟨rfl, hb3⟩
    have hB3 : Below w.heap.size w w3 := below_then hB2 hb3
    clear hb3 hB2
    go_wp2_with fail
    with_reducible refine (awake_any _).mono ?_
    rintro e w6 ⟨rfl, hb6⟩
    go_wp2
    go_ret
    exact ⟨rfl, below_then hB3 hb6⟩
end Go.Proofs.Ytbinllndokcacaa
