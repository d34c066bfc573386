/-
  The walk of LaneFinds where no byte is the first number. By an AI agent.
-/
import Derived.Test.YtjfajnnbmlhpdaaLaneAwake
import Derived.Deep.RegionHeld3
import Derived.Test.YtjfajnnbmlhpdaaLaneFindsBase
namespace Go.Proofs.Ytjfajnnbmlhpdaa
open Go.RowKit
set_option maxRecDepth 100000 in
set_option maxHeartbeats 2000000 in
theorem finds_none (x a b0 bl f z : Int) (L : List Int) (b off n c : Nat) (w : World) (hn0 : 0 < n) (hn1 : n ≤ 20) (hb : b < w.heap.size)
    (g0 : w.cell? ⟨b, off, none⟩ = some (.int .i64 b0)) (gl : w.cell? ⟨b, off + (n - 1), none⟩ = some (.int .i64 bl)) (hL8 : L.length ≤ 8) (hp : ¬ 0 < L.length)
    (H1 : ∀ w, Calls Try.prog 12 #[.int .u64 x, .int .i64 b0] w (RowOf L w)) (H2 : ∀ w, Calls Try.prog 14 #[.int .u64 x, .int .i64 b0] w (RowOf L w))
    (H3 : ∀ w, Calls Try.prog 15 #[.int .u64 x, .int .i64 b0] w (GivesInt (-1) w)) (H4 : ∀ w, Calls Try.prog 16 #[.int .u64 x, .int .i64 b0] w (GivesInt L.length w))
    (H5 : ∀ w', Below w.heap.size w w' → Calls Try.prog 11 #[.int .u64 x, .int .i64 a, .slice (some ⟨b, off, none⟩) n c] w' (GivesInt f w')) (H6 : ∀ w', Below w.heap.size w w' → Calls Try.prog 17 #[.int .u64 x, .int .i64 a, .slice (some ⟨b, off, none⟩) n c] w' (GivesInt f w'))
    (H7 : ∀ w, Calls Try.prog 18 #[.int .u64 x, .int .i64 b0, .int .i64 bl] w (GivesWord z w)) (H8 : ∀ w, Calls Try.prog 19 #[.int .u64 x, .int .i64 b0, .int .i64 bl] w (GivesWord z w)) :
    Calls Try.prog 4 #[.int .u64 x, .int .i64 a, .slice (some ⟨b, off, none⟩) n c] w (Says true w) := by
  have h0 : ((n : Int) == 0) = false := by simp; omega
  have q2 : (f == f) = true := by simp
  have q3 : (z == z) = true := by simp
  have q4 : ((L.length : Int) == (L.length : Int)) = true := by simp
  have J1 := Lib.hid H1; clear H1
  have J2 := Lib.hid H2; clear H2
  have J3 := Lib.hid H3; clear H3
  have J4 := Lib.hid H4; clear H4
  have J5 := Lib.hid H5; clear H5
  have J6 := Lib.hid H6; clear H6
  have J7 := Lib.hid H7; clear H7
  have J8 := Lib.hid H8; clear H8
  have G0 := Lib.hid g0
  have GL := Lib.hid gl; clear gl
  go_enter Try.func4, Try.ntmps4
  go_wp2_with fail
  with_reducible refine (J1.out _).mono ?_
  rintro e w1 ⟨A1, c1, rfl, r1, b1⟩
  have s1 := Sl.of_own r1
  clear r1 g0
  go_wp2_with fail
  have g1 := bcell b1 hb G0.out
  have l1 := bcell b1 hb GL.out
  have hLm : L.length ≤ 9223372036854775807 := by omega
  simp only [List.append]
  have k1 : IntKind.i64.wrap ((n : Int) - 1) = (n : Int) - 1 := IntWalk.i64_in _ (by omega)
  have k2 : (0 : Int) ≤ (n : Int) - 1 := by omega
  have k3 : (1 : Int) ≤ (n : Int) := by omega
  have k5 : 1 ≤ n := hn0
  have k6 : (n : Int) - 1 < (n : Int) := by omega
  have k4 : ((n : Int) - 1).toNat = n - 1 := by omega
  go_region_held3 (fun w' => w'.cell? ⟨b, off, none⟩ = some (.int .i64 b0) ∧ w'.cell? ⟨b, off + (n - 1), none⟩ = some (.int .i64 bl)) (first | go_keep | (constructor <;> assumption))
    (first
      | (go_at_call 14; refine (J2.out _).mono ?_; rintro e w2 ⟨A2, c2, rfl, r2, b2⟩; have s2 := Sl.of_own r2; have B2 : Below w.heap.size w w2 := below_then b1.drew b2; have t2 : Sl w2 w2.heap.size A1 L := (s1.below ((Below.refl _ w1).drew.trans b2)).mono b2.size; have g2 := bcell B2 hb G0.out; have l2 := bcell B2 hb GL.out; clear r2)
      | (go_at_call 13; refine (ints_same L _ _ _ _ _ hLm s2 t2).mono ?_; rintro e w3 ⟨rfl, b3⟩; have B3 := below_then B2 b3; have g3 := bcell B3 hb G0.out; have l3 := bcell B3 hb GL.out)
      | (go_at_call 15; refine (J3.out _).mono ?_; rintro e w4 ⟨rfl, b4⟩; have B4 := below_then B3 b4; have g4 := bcell B4 hb G0.out; have l4 := bcell B4 hb GL.out)
      | (go_at_call 16; refine (J4.out _).mono ?_; rintro e w5 ⟨rfl, b5⟩; have B5 := below_then B4 b5; have g5 := bcell B5 hb G0.out; have l5 := bcell B5 hb GL.out)
      | (go_at_call 11; refine (J5.out _ B5).mono ?_; rintro e w6 ⟨rfl, b6⟩; have B6 := below_then B5 b6; have g6 := bcell B6 hb G0.out; have l6 := bcell B6 hb GL.out)
      | (go_at_call 17; refine (J6.out _ B6).mono ?_; rintro e w7 ⟨rfl, b7⟩; have B7 := below_then B6 b7; have g7 := bcell B7 hb G0.out; have l7 := bcell B7 hb GL.out)
      | (go_at_call 18; refine (J7.out _).mono ?_; rintro e w8 ⟨rfl, b8⟩; have B8 := below_then B7 b8; have g8 := bcell B8 hb G0.out; have l8 := bcell B8 hb GL.out)
      | (go_at_call 19; refine (J8.out _).mono ?_; rintro e w9 ⟨rfl, b9⟩; have B9 := below_then B8 b9; have g9 := bcell B9 hb G0.out; have l9 := bcell B9 hb GL.out)
      | (go_at_call 10; refine (awake_any _).mono ?_; rintro e w10 ⟨rfl, b10⟩; have B10 := below_then B9 b10; have g10 := bcell B10 hb G0.out; have l10 := bcell B10 hb GL.out))
  all_goals go_wp2
  all_goals go_ret
  all_goals exact ⟨rfl, B10⟩
end Go.Proofs.Ytjfajnnbmlhpdaa
