/-
  The walks of the laws DigitReads and DigitWords: each returns true. By an AI agent.
-/
import Derived.Test.YtfbhoakolcolbaaDoorAwake
import Derived.Test.YtfbhoakolcolbaaDoorRefParse
namespace Go.Proofs.YtfbhoakolcolbaaDoor
open Go.RowKit
set_option maxRecDepth 100000 in
set_option maxHeartbeats 1000000 in
theorem reads_walk (s : ByteArray) (a b : Int) (w : World) (hs : s.size ≤ maxLen) (ha0 : -9223372036854775808 ≤ a) (ha1 : a ≤ 9223372036854775807) (hp : Pow w) :
    Calls Tryd.prog 3 #[.string s, .int .i64 a, .int .i64 b] w (Says true w) := by
  have Hp := Lib.hid hp; clear hp
  have h1 := fun w => parse_any s a b w hs
  have h2 := fun w => rparse_any s a b w hs
  unfold CParse at h1
  unfold RParse at h2
  generalize Dg.parseV s.data.toList a b = V at h1 h2
  generalize Dg.parseE s.data.toList a b = E at h1 h2
  have H1 := Lib.hid h1; clear h1
  have H2 := Lib.hid h2; clear h2
  have h3 := fun w hp => print_any a ha0 ha1 w hp
  have h4 := fun w => rprint_any a ha0 ha1 w
  unfold Text at h3 h4
  generalize Lib.itoa a = l at h3 h4
  have H3 := Lib.hid h3; clear h3
  have H4 := Lib.hid h4; clear h4
  have eV : (V == V) = true := by simp
  have eE : (E == E) = true := by simp
  go_enter Tryd.func3, Tryd.ntmps3
  go_wp2_with fail
  with_reducible refine (H1.out _).mono ?_
  rintro e w1 ⟨rfl, b1⟩
  go_wp2_with fail
  with_reducible refine (H2.out _).mono ?_
  rintro e w2 ⟨rfl, rfl⟩
  go_wp2_with fail
  with_reducible refine (H3.out _ (Hp.out.below b1)).mono ?_
  rintro e w3 ⟨rfl, b3⟩
  have c3 := below_then b1 b3
  go_wp2_with fail
  with_reducible refine (H4.out _).mono ?_
  rintro e w4 ⟨rfl, b4⟩
  have c4 := below_then c3 b4
  go_wp2_with fail
  with_reducible refine (awake_any _ (Hp.out.below c4)).mono ?_
  rintro e w5 ⟨rfl, b5⟩
  go_wp2
  go_ret
  exact ⟨rfl, below_then c4 b5⟩
set_option maxRecDepth 100000 in
set_option maxHeartbeats 1000000 in
theorem words_walk (s : ByteArray) (u : Int) (w : World) (hs : s.size ≤ maxLen) (ha0 : 0 ≤ u) (ha1 : u ≤ 18446744073709551615) (hp : Pow w) :
    Calls Tryd.prog 4 #[.string s, .int .u64 u] w (Says true w) := by
  have Hp := Lib.hid hp; clear hp
  have h1 := fun w => word_any s w hs
  have h2 := fun w => rword_any s w hs
  unfold Word2 at h1
  unfold RWord at h2
  generalize (Dg.wordV s.data.toList 20 : Int) = V at h1 h2
  generalize Dg.wordE s.data.toList 20 = E at h1 h2
  have H1 := Lib.hid h1; clear h1
  have H2 := Lib.hid h2; clear h2
  have h3 := fun w hp => show_any u ha0 ha1 w hp
  have h4 := fun w => rshow_any u ha0 ha1 w
  unfold Text at h3 h4
  generalize Lib.decDigits u.toNat = l at h3 h4
  have H3 := Lib.hid h3; clear h3
  have H4 := Lib.hid h4; clear h4
  have eV : (V == V) = true := by simp
  have eE : (E == E) = true := by simp
  go_enter Tryd.func4, Tryd.ntmps4
  go_wp2_with fail
  with_reducible refine (H1.out _).mono ?_
  rintro e w1 ⟨rfl, b1⟩
  go_wp2_with fail
  with_reducible refine (H2.out _).mono ?_
  rintro e w2 ⟨rfl, rfl⟩
  go_wp2_with fail
  with_reducible refine (H3.out _ (Hp.out.below b1)).mono ?_
  rintro e w3 ⟨rfl, b3⟩
  have c3 := below_then b1 b3
  go_wp2_with fail
  with_reducible refine (H4.out _).mono ?_
  rintro e w4 ⟨rfl, b4⟩
  have c4 := below_then c3 b4
  go_wp2_with fail
  with_reducible refine (awake_any _ (Hp.out.below c4)).mono ?_
  rintro e w5 ⟨rfl, b5⟩
  go_wp2
  go_ret
  exact ⟨rfl, below_then c4 b5⟩
end Go.Proofs.YtfbhoakolcolbaaDoor
