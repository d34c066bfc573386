/-
  The walks of Start, Claim, Whole, spread, times, xor. By an AI agent.
-/
import Derived.Test.YtcbiciofdkajnaaChecked
import Derived.Test.YtcbiciofdkajnaaMixMath
import Derived.WalkKit
import Derived.WalkSpells
import Derived.WalkLawsBesides
import Derived.WalkMore
import Derived.Below
import Derived.Lib.Hide
import Derived.IntWalk
namespace Go.Proofs.Ytcbiciofdkajnaa
open Go.RowKit
theorem ret_int {k : IntKind} {a b : Int} (h : a = b) : Ending.returned (.int k a) = .returned (.int k b) := by rw [h]
theorem below_then {a b c : World} (h : Below a.heap.size a b) (k : Below b.heap.size b c) : Below a.heap.size a c := h.trans (k.mono h.size)
theorem wrap64_small {x : Int} (h0 : -9223372036854775808 ≤ x) (h1 : x ≤ 9223372036854775807) : wrap64 x = x := by unfold wrap64; omega
theorem u64_wrap_small {x : Int} (h0 : 0 ≤ x) (h1 : x ≤ 18446744073709551615) : IntKind.u64.wrap x = x := by
  simp [IntKind.wrap, IntKind.bits, IntKind.signed]; omega
def Same (v : Value) (w : World) (e : Ending) (w' : World) : Prop := e = .returned v ∧ w = w'
set_option maxHeartbeats 1000000 in
theorem start_any (h : Int) (w : World) : Calls Try.prog 9 #[.int .u64 h] w (Same (.int .u64 (h / 128)) w) := by
  go_enter Try.func9, Try.ntmps9
  go_wp2
  go_ret
  exact ⟨rfl, rfl⟩
set_option maxHeartbeats 1000000 in
theorem rstart_any (h : Int) (w : World) (h0 : 0 ≤ h) (h1 : h ≤ 18446744073709551615) : Calls Try.prog 10 #[.int .u64 h] w (Same (.int .u64 (h / 128)) w) := by
  go_enter Try.func10, Try.ntmps10
  go_wp2
  go_ret
  exact ⟨rfl, rfl⟩
set_option maxHeartbeats 1000000 in
theorem claim_any (h : Int) (w : World) (h0 : 0 ≤ h) (h1 : h ≤ 18446744073709551615) : Calls Try.prog 11 #[.int .u64 h] w (Same (.int .i64 (128 + h % 128)) w) := by
  go_enter Try.func11, Try.ntmps11
  go_wp2
  go_ret
  refine ⟨ret_int ?_, rfl⟩
  rw [Mx.bits_claim h0 h1]
  exact wrap64_small (by omega) (by omega)
set_option maxHeartbeats 1000000 in
theorem rclaim_any (h : Int) (w : World) (h0 : 0 ≤ h) (h1 : h ≤ 18446744073709551615) : Calls Try.prog 12 #[.int .u64 h] w (Same (.int .i64 (128 + h % 128)) w) := by
  go_enter Try.func12, Try.ntmps12
  go_wp2
  go_ret
  refine ⟨ret_int ?_, rfl⟩
  first | rfl | omega
set_option maxHeartbeats 1000000 in
theorem whole_any (s c : Int) (w : World) (h0 : 0 ≤ s) (h1 : s ≤ 18446744073709551615) : Calls Try.prog 13 #[.int .u64 s, .int .i64 c] w (Same (.int .u64 (Mx.whl s c)) w) := by
  by_cases a1 : 144115188075855872 ≤ s
  · go_enter Try.func13, Try.ntmps13
    go_wp2
    go_ret
    exact ⟨ret_int (Mx.whl_out (.inl a1)).symm, rfl⟩
  · by_cases a2 : c < 128
    · go_enter Try.func13, Try.ntmps13
      go_wp2
      go_ret
      exact ⟨ret_int (Mx.whl_out (.inr (.inl a2))).symm, rfl⟩
    · by_cases a3 : 255 < c
      · go_enter Try.func13, Try.ntmps13
        go_wp2
        go_ret
        exact ⟨ret_int (Mx.whl_out (.inr (.inr a3))).symm, rfl⟩
      · go_enter Try.func13, Try.ntmps13
        go_wp2
        go_ret
        refine ⟨ret_int ?_, rfl⟩
        rw [Mx.whl_in (by omega) (by omega) (by omega)]
        have e := Mx.bits_whole h0 (by omega : s < 144115188075855872) (by omega : 0 ≤ c - 128) (by omega)
        rw [← e]
        try rw [u64_wrap_small (x := s * 128) (by omega) (by omega)]
set_option maxHeartbeats 1000000 in
theorem rwhole_any (s c : Int) (w : World) (h0 : 0 ≤ s) (h1 : s ≤ 18446744073709551615) : Calls Try.prog 14 #[.int .u64 s, .int .i64 c] w (Same (.int .u64 (Mx.whl s c)) w) := by
  by_cases a1 : 144115188075855872 ≤ s
  · go_enter Try.func14, Try.ntmps14
    go_wp2
    go_ret
    exact ⟨ret_int (Mx.whl_out (.inl a1)).symm, rfl⟩
  · by_cases a2 : c < 128
    · go_enter Try.func14, Try.ntmps14
      go_wp2
      go_ret
      exact ⟨ret_int (Mx.whl_out (.inr (.inl a2))).symm, rfl⟩
    · by_cases a3 : 255 < c
      · go_enter Try.func14, Try.ntmps14
        go_wp2
        go_ret
        exact ⟨ret_int (Mx.whl_out (.inr (.inr a3))).symm, rfl⟩
      · go_enter Try.func14, Try.ntmps14
        go_wp2
        go_ret
        refine ⟨ret_int ?_, rfl⟩
        rw [Mx.whl_in (by omega) (by omega) (by omega)]
set_option maxHeartbeats 1000000 in
theorem spread_any (h : Nat) (w : World) (h1 : h < 18446744073709551616) : Calls Try.prog 16 #[.int .u64 (h : Int)] w (Same (.int .u64 (Mx.spr h : Nat)) w) := by
  go_enter Try.func16, Try.ntmps16
  go_wp2
  go_ret
  refine ⟨ret_int ?_, rfl⟩
  exact Mx.bits_spr h1
set_option maxHeartbeats 1000000 in
theorem times_any (a b : Nat) (w : World) : Calls Try.prog 17 #[.int .u64 (a : Int), .int .u64 (b : Int)] w (Same (.int .u64 (a * b % 18446744073709551616 : Nat)) w) := by
  go_enter Try.func17, Try.ntmps17
  go_wp2
  go_ret
  refine ⟨ret_int ?_, rfl⟩
  exact Mx.wrap_mul a b
set_option maxHeartbeats 1000000 in
theorem xor_any (a b : Nat) (w : World) (ha : a < 18446744073709551616) (hb : b < 18446744073709551616) : Calls Try.prog 18 #[.int .u64 (a : Int), .int .u64 (b : Int)] w (Same (.int .u64 (a ^^^ b : Nat)) w) := by
  go_enter Try.func18, Try.ntmps18
  go_wp2
  go_ret
  refine ⟨ret_int ?_, rfl⟩
  exact Mx.bits_rxor ha hb
end Go.Proofs.Ytcbiciofdkajnaa
