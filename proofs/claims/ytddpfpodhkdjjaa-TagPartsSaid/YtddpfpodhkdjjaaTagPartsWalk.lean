/-
  The walk of TagParts. By an AI agent.
-/
import Derived.Test.YtddpfpodhkdjjaaTagAwake
import Derived.Deep.RegionHeld3
set_option linter.unusedSimpArgs false
set_option linter.unusedVariables false
namespace Go.Proofs.Ytddpfpodhkdjjaa
open Go.RowKit
set_option maxRecDepth 100000 in
set_option maxHeartbeats 4000000 in
theorem parts_any (x b m : Int) (w : World) (h0 : 0 ≤ x) (h1 : x ≤ 18446744073709551615) (b0 : 0 ≤ b) (b1 : b ≤ 18446744073709551615) (m0 : -9223372036854775808 ≤ m) (m1 : m ≤ 9223372036854775807) :
    Calls Try.prog 3 #[.int .u64 x, .int .u64 b, .int .i64 m] w (Says true w) := by
  have K1 := Lib.hid fun w => of_any x w h0 h1
  have K2 := Lib.hid fun w => rblock_any x w h0 h1
  have K3 := Lib.hid fun w => rmark_any x w h0 h1
  have K4 := Lib.hid fun w => block_any x w h0 h1
  have K5 := Lib.hid fun w => mark_any x w h0 h1
  have K6 := Lib.hid fun w => make_any b m w b0 b1 m0 m1
  have K7 := Lib.hid fun w => rmake_any b m w b0 b1 m0 m1
  generalize x / 8 = r at K1 K2 K4
  generalize x % 8 = s at K1 K3 K5
  generalize Tg.mk b m = z at K6 K7
  have q1 : (r == r) = true := by simp
  have q2 : (s == s) = true := by simp
  have q3 : (z == z) = true := by simp
  go_enter Try.func3, Try.ntmps3
  go_wp2_with fail
  with_reducible refine (K1.out _).mono ?_
  rintro e w1 ⟨rfl, hb⟩
  go_wp2_with fail
  obtain ⟨W, hW⟩ : ∃ W, W = w1.alloc (.cells #[.int .u64 r, .int .i64 s] 24) := ⟨_, rfl⟩
  have B1 : Below w.heap.size w W := by rw [hW]; exact hb.alloc hb.size _
  have cs := box_cells (w := w1) (b := r) (m := s) (w' := W) (by rw [hW]; exact Below.refl _ _)
  have hs : w1.heap.size < W.heap.size := by rw [hW]; simp
  rw [← hW]
  generalize w1.heap.size = p at cs hs ⊢
  clear hW hb
  obtain ⟨cs0, cs1⟩ := cs
  have C0 := Lib.hid cs0
  have C1 := Lib.hid cs1
  have D1 := Lib.hid B1
  clear B1
  go_region_held3 (fun w' => w'.cell? ⟨p, 0, none⟩ = some (.int .u64 r) ∧ w'.cell? ⟨p, 1, none⟩ = some (.int .i64 s)) (first | go_keep | (constructor <;> assumption))
    (first
      | (go_at_call 7; refine (K2.out _).mono ?_; rintro e w2 ⟨rfl, rfl⟩)
      | (go_at_call 8; refine (K3.out _).mono ?_; rintro e w3 ⟨rfl, rfl⟩)
      | (go_at_call 9; refine (K4.out _).mono ?_; rintro e w4 ⟨rfl, b4⟩; have B4 : Below W.heap.size W w4 := below_then (Below.refl _ W).drew b4; have g4 := (B4.cell (p := ⟨p, 0, none⟩) hs).trans C0.out; have l4 := (B4.cell (p := ⟨p, 1, none⟩) hs).trans C1.out)
      | (go_at_call 10; refine (K5.out _).mono ?_; rintro e w5 ⟨rfl, b5⟩; have B5 := below_then B4 b5; have g5 := (B5.cell (p := ⟨p, 0, none⟩) hs).trans C0.out; have l5 := (B5.cell (p := ⟨p, 1, none⟩) hs).trans C1.out)
      | (go_at_call 11; refine (K6.out _).mono ?_; rintro e w6 ⟨rfl, rfl⟩)
      | (go_at_call 12; refine (K7.out _).mono ?_; rintro e w7 ⟨rfl, rfl⟩)
      | (go_at_call 13; refine (awake_any _).mono ?_; rintro e w8 ⟨rfl, b8⟩; have B8 := below_then B5 b8; have g8 := (B8.cell (p := ⟨p, 0, none⟩) hs).trans C0.out; have l8 := (B8.cell (p := ⟨p, 1, none⟩) hs).trans C1.out)
      | fail)
  all_goals go_wp2
  all_goals go_ret
  all_goals exact ⟨rfl, below_then D1.out B8⟩
end Go.Proofs.Ytddpfpodhkdjjaa
