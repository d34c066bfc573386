/-
  The walks of length, Head, Lens, Size, and of the document's own. By an AI agent.
-/
import Derived.Test.YtdhhhkjbpfhkaaaPackParts
import Derived.Test.YtdhhhkjbpfhkaaaBoxMath
namespace Go.Proofs.Ytdhhhkjbpfhkaaa
open Go.RowKit
set_option maxHeartbeats 1000000 in
theorem length_any (s : ByteArray) (w : World) (hs : s.size ≤ maxLen) : Calls Try.prog 37 #[.string s] w (Same (.int .u64 (min (s.size : Int) 255)) w) := by
  unfold maxLen at hs
  go_enter Try.func37, Try.ntmps37
  go_wp2
  all_goals go_ret
  all_goals exact ⟨ret_int (by omega), rfl⟩
set_option maxHeartbeats 1000000 in
theorem few_any (n m : Int) (w : World) : Calls Try.prog 34 #[.int .i64 n, .int .i64 m] w (Same (.int .i64 (min n m)) w) := by
  by_cases h : m < n
  · go_enter Try.func34, Try.ntmps34
    go_wp2
    go_ret
    exact ⟨ret_int (by omega), rfl⟩
  · go_enter Try.func34, Try.ntmps34
    go_wp2
    go_ret
    exact ⟨ret_int (by omega), rfl⟩
set_option maxHeartbeats 1000000 in
theorem head_any (k v : ByteArray) (w : World) (hk : k.size ≤ maxLen) (hv : v.size ≤ maxLen) : Calls Try.prog 28 #[.string k, .string v] w (Same (.int .u64 (Bx.hd k.size v.size)) w) := by
  have K := fun w => length_any k w hk
  have V := fun w => length_any v w hv
  have hd : Bx.hd k.size v.size = min (k.size : Int) 255 + 256 * min (v.size : Int) 255 := rfl
  have b0 : 0 ≤ min (k.size : Int) 255 ∧ min (k.size : Int) 255 ≤ 255 := by omega
  have b1 : 0 ≤ min (v.size : Int) 255 ∧ min (v.size : Int) 255 ≤ 255 := by omega
  generalize min (k.size : Int) 255 = x at *
  generalize min (v.size : Int) 255 = y at *
  rw [hd]
  have HK := Lib.hid K; clear K
  have HV := Lib.hid V; clear V
  clear hd hk hv
  go_enter Try.func28, Try.ntmps28
  go_wp2_with fail
  with_reducible refine (HK.out _).mono ?_
  rintro e w1 ⟨rfl, rfl⟩
  go_wp2_with fail
  with_reducible refine (HV.out _).mono ?_
  rintro e w1 ⟨rfl, rfl⟩
  go_wp2
  go_ret
  exact ⟨ret_int (by omega), rfl⟩
set_option maxHeartbeats 1000000 in
theorem rhead_any (k v : ByteArray) (w : World) : Calls Try.prog 24 #[.string k, .string v] w (Same (.int .u64 (Bx.hd k.size v.size)) w) := by
  have K := fun w => few_any (k.size : Int) 255 w
  have V := fun w => few_any (v.size : Int) 255 w
  have hd : Bx.hd k.size v.size = min (k.size : Int) 255 + 256 * min (v.size : Int) 255 := rfl
  have b0 : 0 ≤ min (k.size : Int) 255 ∧ min (k.size : Int) 255 ≤ 255 := by omega
  have b1 : 0 ≤ min (v.size : Int) 255 ∧ min (v.size : Int) 255 ≤ 255 := by omega
  generalize min (k.size : Int) 255 = x at *
  generalize min (v.size : Int) 255 = y at *
  rw [hd]
  have HK := Lib.hid K; clear K
  have HV := Lib.hid V; clear V
  clear hd
  go_enter Try.func24, Try.ntmps24
  go_wp2_with fail
  with_reducible refine (HK.out _).mono ?_
  rintro e w1 ⟨rfl, rfl⟩
  go_wp2_with fail
  with_reducible refine (HV.out _).mono ?_
  rintro e w1 ⟨rfl, rfl⟩
  go_wp2
  go_ret
  exact ⟨ret_int (by omega), rfl⟩
end Go.Proofs.Ytdhhhkjbpfhkaaa
