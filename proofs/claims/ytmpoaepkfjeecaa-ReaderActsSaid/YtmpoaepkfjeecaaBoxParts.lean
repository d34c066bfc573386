/-
  The walks of length, Head, Lens, Size, and of the document's own. By an AI agent.
-/
import Derived.Test.YtmpoaepkfjeecaaPackParts
import Derived.Test.YtmpoaepkfjeecaaBoxMath
namespace Go.Proofs.Ytmpoaepkfjeecaa
open Go.RowKit
set_option maxHeartbeats 1000000 in
theorem length_any (s : ByteArray) (w : World) (hs : s.size ≤ maxLen) : Calls Try.prog 44 #[.string s] w (Same (.int .u64 (min (s.size : Int) 255)) w) := by
  unfold maxLen at hs
  go_enter Try.func44, Try.ntmps44
  go_wp2
  all_goals go_ret
  all_goals exact ⟨ret_int (by omega), rfl⟩
set_option maxHeartbeats 1000000 in
theorem few_any (n m : Int) (w : World) : Calls Try.prog 39 #[.int .i64 n, .int .i64 m] w (Same (.int .i64 (min n m)) w) := by
  by_cases h : m < n
  · go_enter Try.func39, Try.ntmps39
    go_wp2
    go_ret
    exact ⟨ret_int (by omega), rfl⟩
  · go_enter Try.func39, Try.ntmps39
    go_wp2
    go_ret
    exact ⟨ret_int (by omega), rfl⟩
set_option maxHeartbeats 1000000 in
theorem head_any (k v : ByteArray) (w : World) (hk : k.size ≤ maxLen) (hv : v.size ≤ maxLen) : Calls Try.prog 34 #[.string k, .string v] w (Same (.int .u64 (Bx.hd k.size v.size)) w) := by
  have K := fun w => length_any k w hk
  have V := fun w => length_any v w hv
  have hd : Bx.hd k.size v.size = min (k.size : Int) 255 + 256 * min (v.size : Int) 255 := rfl
  have b0 : 0 ≤ min (k.size : Int) 255 ∧ min (k.size : Int) 255 ≤ 255 := by omega
  have b1 : 0 ≤ min (v.size : Int) 255 ∧ min (v.size : Int) 255 ≤ 255 := by omega
  generalize min (k.size : Int) 255 = x at *
  generalize min (v.size : Int) 255 = y at *
  rw [hd]
  have HK := Lib.hid K; clear K
  have HV := Lib.hid V; clear V
  clear hd hk hv
  go_enter Try.func34, Try.ntmps34
  go_wp2_with fail
  with_reducible refine (HK.out _).mono ?_
  rintro e w1 ⟨rfl, rfl⟩
  go_wp2_with fail
  with_reducible refine (HV.out _).mono ?_
  rintro e w1 ⟨rfl, rfl⟩
  go_wp2
  go_ret
  exact ⟨ret_int (by omega), rfl⟩
/-- Two numbers. -/
abbrev two (a b : Int) : Value := .tuple #[.int .i64 a, .int .i64 b]
theorem two_of {a b c d : Int} (h : a = c) (k : b = d) : Ending.returned (two a b) = .returned (two c d) := by rw [h, k]
set_option maxHeartbeats 1000000 in
theorem lens_any (h : Int) (w : World) (h0 : 0 ≤ h) (h1 : h ≤ 18446744073709551615) : Calls Try.prog 41 #[.int .u64 h] w (Same (two (Bx.lk h) (Bx.lv h)) w) := by
  go_enter Try.func41, Try.ntmps41
  go_wp2
  all_goals go_ret2
  all_goals exact ⟨two_of (by unfold Bx.lk; omega) (by unfold Bx.lv; omega), rfl⟩
set_option maxHeartbeats 1000000 in
theorem rlens_any (h : Int) (w : World) (h0 : 0 ≤ h) (h1 : h ≤ 18446744073709551615) : Calls Try.prog 28 #[.int .u64 h] w (Same (two (Bx.lk h) (Bx.lv h)) w) := by
  have F := few_any
  have HF := Lib.hid F; clear F
  go_enter Try.func28, Try.ntmps28
  go_wp2_with fail
  with_reducible refine (HF.out _ _ _).mono ?_
  rintro e w1 ⟨rfl, rfl⟩
  go_wp2_with fail
  with_reducible refine (HF.out _ _ _).mono ?_
  rintro e w1 ⟨rfl, rfl⟩
  go_wp2
  go_ret2
  exact ⟨two_of (by unfold Bx.lk; omega) (by unfold Bx.lv; omega), rfl⟩
set_option maxHeartbeats 1000000 in
theorem bsize_any (h : Int) (w : World) (h0 : 0 ≤ h) (h1 : h ≤ 18446744073709551615) : Calls Try.prog 32 #[.int .u64 h] w (Same (.int .i64 (Bx.size h)) w) := by
  have L := fun w => lens_any h w h0 h1
  obtain ⟨s, hs⟩ : ∃ s, s = Bx.size h := ⟨_, rfl⟩
  have b0 := Bx.lk_bd h
  have b1 := Bx.lv_bd h
  rw [← hs]
  unfold Bx.size at hs
  generalize Bx.lk h = x at *
  generalize Bx.lv h = y at *
  have MX := fun w => many_any x w (by omega) (by omega)
  have MY := fun w => many_any y w (by omega) (by omega)
  have c0 := Pk.many_bd (n := x)
  have c1 := Pk.many_bd (n := y)
  have d0 : Pk.many x ≤ 100 := by split at c0 <;> omega
  have d1 : Pk.many y ≤ 100 := by split at c1 <;> omega
  have e0 := c0.1
  have e1 := c1.1
  clear c0 c1
  generalize Pk.many x = p at *
  generalize Pk.many y = q at *
  have HL := Lib.hid L; clear L
  have HX := Lib.hid MX; clear MX
  have HY := Lib.hid MY; clear MY
  have Hs := Lib.hid hs; clear hs
  go_enter Try.func32, Try.ntmps32
  go_wp2_with fail
  with_reducible refine (HL.out _).mono ?_
  rintro e w1 ⟨rfl, rfl⟩
  go_wp2_with fail
  with_reducible refine (HX.out _).mono ?_
  rintro e w1 ⟨rfl, rfl⟩
  go_wp2_with fail
  with_reducible refine (HY.out _).mono ?_
  rintro e w1 ⟨rfl, rfl⟩
  go_wp2
  go_ret
  exact ⟨ret_int (by rw [Hs.out]), rfl⟩
set_option maxHeartbeats 1000000 in
theorem rsize_any (h : Int) (w : World) (h0 : 0 ≤ h) (h1 : h ≤ 18446744073709551615) : Calls Try.prog 18 #[.int .u64 h] w (Same (.int .i64 (Bx.size h)) w) := by
  have L := fun w => rlens_any h w h0 h1
  obtain ⟨s, hs⟩ : ∃ s, s = Bx.size h := ⟨_, rfl⟩
  have b0 := Bx.lk_bd h
  have b1 := Bx.lv_bd h
  rw [← hs]
  unfold Bx.size at hs
  generalize Bx.lk h = x at *
  generalize Bx.lv h = y at *
  have MX := fun w => rmany_any x w (by omega) (by omega)
  have MY := fun w => rmany_any y w (by omega) (by omega)
  have c0 := Pk.many_bd (n := x)
  have c1 := Pk.many_bd (n := y)
  have d0 : Pk.many x ≤ 100 := by split at c0 <;> omega
  have d1 : Pk.many y ≤ 100 := by split at c1 <;> omega
  have e0 := c0.1
  have e1 := c1.1
  clear c0 c1
  generalize Pk.many x = p at *
  generalize Pk.many y = q at *
  have HL := Lib.hid L; clear L
  have HX := Lib.hid MX; clear MX
  have HY := Lib.hid MY; clear MY
  have Hs := Lib.hid hs; clear hs
  go_enter Try.func18, Try.ntmps18
  go_wp2_with fail
  with_reducible refine (HL.out _).mono ?_
  rintro e w1 ⟨rfl, rfl⟩
  go_wp2_with fail
  with_reducible refine (HX.out _).mono ?_
  rintro e w1 ⟨rfl, rfl⟩
  go_wp2_with fail
  with_reducible refine (HY.out _).mono ?_
  rintro e w1 ⟨rfl, rfl⟩
  go_wp2
  go_ret
  exact ⟨ret_int (by rw [Hs.out]), rfl⟩
end Go.Proofs.Ytmpoaepkfjeecaa
