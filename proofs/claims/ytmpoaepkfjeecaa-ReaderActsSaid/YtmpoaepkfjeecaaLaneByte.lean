/-
  The walks of lane.Byte, lane.With, isPlace, isByte. By an AI agent.
-/
import Derived.Test.YtmpoaepkfjeecaaChecked
import Derived.Test.YtmpoaepkfjeecaaLaneMath
import Derived.WalkKit
import Derived.WalkSpells
import Derived.WalkLawsBesides
import Derived.WalkMore
import Derived.Below
import Derived.Lib.Hide
import Derived.IntWalk
namespace Go.Proofs.Ytmpoaepkfjeecaa
open Go.RowKit
theorem ret_int {k : IntKind} {a b : Int} (h : a = b) : Ending.returned (.int k a) = .returned (.int k b) := by rw [h]
theorem below_then {a b c : World} (h : Below a.heap.size a b) (k : Below b.heap.size b c) : Below a.heap.size a c := h.trans (k.mono h.size)
theorem wrap64_small {x : Int} (h0 : -9223372036854775808 ≤ x) (h1 : x ≤ 9223372036854775807) : wrap64 x = x := by unfold wrap64; omega
theorem u64_wrap_small {x : Int} (h0 : 0 ≤ x) (h1 : x ≤ 18446744073709551615) : IntKind.u64.wrap x = x := by
  simp [IntKind.wrap, IntKind.bits, IntKind.signed]; omega
theorem shl_bd {i b : Int} (h0 : 0 ≤ i) (h1 : i < 8) (b0 : 0 ≤ b) (b1 : b ≤ 255) : 0 ≤ b * 2 ^ (8 * i).toNat ∧ b * 2 ^ (8 * i).toNat ≤ 18446744073709551615 := by
  rcases Ln.eight h0 h1 with rfl | rfl | rfl | rfl | rfl | rfl | rfl | rfl <;> simp <;> omega
set_option maxHeartbeats 1000000 in
theorem isPlace_yes (i : Int) (w : World) (h0 : 0 ≤ i) (h1 : i < 8) : Calls Try.prog 60 #[.int .i64 i] w fun e w' => e = .returned (.bool true) ∧ w = w' := by
  go_enter Try.func60, Try.ntmps60
  go_wp2
  go_ret
  exact ⟨rfl, rfl⟩
set_option maxHeartbeats 1000000 in
theorem isPlace_no (i : Int) (w : World) (h : i < 0 ∨ 8 ≤ i) : Calls Try.prog 60 #[.int .i64 i] w fun e w' => e = .returned (.bool false) ∧ w = w' := by
  rcases h with h | h
  · have h' : ¬ 0 ≤ i := by omega
    go_enter Try.func60, Try.ntmps60
    go_wp2
    go_ret
    exact ⟨rfl, rfl⟩
  · have h' : 0 ≤ i := by omega
    have h'' : ¬ i < 8 := by omega
    go_enter Try.func60, Try.ntmps60
    go_wp2
    go_ret
    exact ⟨rfl, rfl⟩
set_option maxHeartbeats 1000000 in
theorem isByte_yes (i : Int) (w : World) (h0 : 0 ≤ i) (h1 : i ≤ 255) : Calls Try.prog 61 #[.int .i64 i] w fun e w' => e = .returned (.bool true) ∧ w = w' := by
  go_enter Try.func61, Try.ntmps61
  go_wp2
  go_ret
  exact ⟨rfl, rfl⟩
set_option maxHeartbeats 1000000 in
theorem isByte_no (i : Int) (w : World) (h : i < 0 ∨ 255 < i) : Calls Try.prog 61 #[.int .i64 i] w fun e w' => e = .returned (.bool false) ∧ w = w' := by
  rcases h with h | h
  · have h' : ¬ 0 ≤ i := by omega
    go_enter Try.func61, Try.ntmps61
    go_wp2
    go_ret
    exact ⟨rfl, rfl⟩
  · have h' : 0 ≤ i := by omega
    have h'' : ¬ i ≤ 255 := by omega
    go_enter Try.func61, Try.ntmps61
    go_wp2
    go_ret
    exact ⟨rfl, rfl⟩
set_option maxHeartbeats 1000000 in
/-- lane.Byte. -/
theorem byte_any (x i : Int) (w : World) (hx0 : 0 ≤ x) (hx1 : x ≤ 18446744073709551615) : Calls Try.prog 65 #[.int .u64 x, .int .i64 i] w fun e w' => e = .returned (.int .i64 (Ln.byt x i)) ∧ w = w' := by
  by_cases h : 0 ≤ i ∧ i < 8
  · obtain ⟨h0, h1⟩ := h
    go_enter Try.func65, Try.ntmps65
    go_wp2_with (go_at_call 60; refine (isPlace_yes _ _ h0 h1).mono ?_; rintro e w' ⟨rfl, rfl⟩)
    go_ret
    refine ⟨ret_int ?_, rfl⟩
    rw [Ln.bits_byte hx0 hx1 h0 h1]
    have := Ln.byt_bd x i
    exact wrap64_small (by omega) (by omega)
  · have h' : i < 0 ∨ 8 ≤ i := by omega
    go_enter Try.func65, Try.ntmps65
    go_wp2_with (go_at_call 60; refine (isPlace_no _ _ h').mono ?_; rintro e w' ⟨rfl, rfl⟩)
    go_ret
    exact ⟨ret_int (Ln.byt_out h').symm, rfl⟩
set_option maxHeartbeats 1000000 in
/-- lane.With. -/
theorem with_any (x i b : Int) (w : World) (hx0 : 0 ≤ x) (hx1 : x ≤ 18446744073709551615) : Calls Try.prog 49 #[.int .u64 x, .int .i64 i, .int .i64 b] w fun e w' => e = .returned (.int .u64 (Ln.wth x i b)) ∧ w = w' := by
  by_cases h : 0 ≤ i ∧ i < 8
  · obtain ⟨h0, h1⟩ := h
    by_cases hb : 0 ≤ b ∧ b ≤ 255
    · obtain ⟨b0, b1⟩ := hb
      go_enter Try.func49, Try.ntmps49
      go_wp2_with (first | (go_at_call 60; refine (isPlace_yes _ _ h0 h1).mono ?_; rintro e w' ⟨rfl, rfl⟩) | (go_at_call 61; refine (isByte_yes _ _ b0 b1).mono ?_; rintro e w' ⟨rfl, rfl⟩))
      go_ret
      refine ⟨ret_int ?_, rfl⟩
      have e1 := u64_wrap_small (shl_bd h0 h1 (b := 255) (by omega) (by omega)).1 (shl_bd h0 h1 (b := 255) (by omega) (by omega)).2
      have e2 := u64_wrap_small (shl_bd h0 h1 b0 b1).1 (shl_bd h0 h1 b0 b1).2
      rw [e1, e2]
      exact Ln.bits_with hx0 hx1 h0 h1 b0 b1
    · have hb' : b < 0 ∨ 255 < b := by omega
      go_enter Try.func49, Try.ntmps49
      go_wp2_with (first | (go_at_call 60; refine (isPlace_yes _ _ h0 h1).mono ?_; rintro e w' ⟨rfl, rfl⟩) | (go_at_call 61; refine (isByte_no _ _ hb').mono ?_; rintro e w' ⟨rfl, rfl⟩))
      go_ret
      exact ⟨ret_int (Ln.wth_out (.inr hb')).symm, rfl⟩
  · have h' : i < 0 ∨ 8 ≤ i := by omega
    go_enter Try.func49, Try.ntmps49
    go_wp2_with (go_at_call 60; refine (isPlace_no _ _ h').mono ?_; rintro e w' ⟨rfl, rfl⟩)
    go_ret
    exact ⟨ret_int (Ln.wth_out (.inl h')).symm, rfl⟩
end Go.Proofs.Ytmpoaepkfjeecaa
