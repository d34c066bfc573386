/-
  The walk of LaneFinds where no number is asked for, or too many. By an AI agent.
-/
import Derived.Test.YtjfajnnbmlhpdaaLaneAwake
import Derived.Deep.RegionHeld3
namespace Go.Proofs.Ytjfajnnbmlhpdaa
open Go.RowKit
theorem fst_nil (x a : Int) : Ln.fst x a [] = 8 := rfl
set_option maxRecDepth 100000 in
set_option maxHeartbeats 1000000 in
/-- Where no number is asked for, or too many. -/
theorem finds_few (x a : Int) (A : Option Addr) (n c : Nat) (w : World) (hx0 : 0 ≤ x) (hx1 : x ≤ 18446744073709551615) (hl : n ≤ 9223372036854775807) (h : n = 0 ∨ 20 < n) :
    Calls Try.prog 4 #[.int .u64 x, .int .i64 a, .slice A n c] w (Says true w) := by
  have hf := fun w => first_any x a [] none 0 hx0 hx1 (by decide) w (.inl rfl)
  rw [fst_nil] at hf
  have Hf := Lib.hid hf; clear hf
  rcases h with rfl | h
  · go_enter Try.func4, Try.ntmps4
    go_wp2_with fail
    refine (Hf.out _).mono ?_
    rintro e w1 ⟨rfl, b1⟩
    go_wp2_with fail
    with_reducible refine (awake_any _).mono ?_
    rintro e w2 ⟨rfl, b2⟩
    go_wp2
    go_ret
    exact ⟨rfl, below_then b1 b2⟩
  · have h0 : ((n : Int) == 0) = false := by simp; omega
    go_enter Try.func4, Try.ntmps4
    go_wp2_with fail
    refine (Hf.out _).mono ?_
    rintro e w1 ⟨rfl, b1⟩
    go_wp2_with fail
    with_reducible refine (awake_any _).mono ?_
    rintro e w2 ⟨rfl, b2⟩
    go_wp2
    go_ret
    exact ⟨rfl, below_then b1 b2⟩
theorem bcell {W w1 : World} (hb : Below W.heap.size W w1) {b o : Nat} {v : Value} (hlt : b < W.heap.size) (h : W.cell? ⟨b, o, none⟩ = some v) : w1.cell? ⟨b, o, none⟩ = some v := (hb.cell (p := ⟨b, o, none⟩) hlt).trans h
end Go.Proofs.Ytjfajnnbmlhpdaa
