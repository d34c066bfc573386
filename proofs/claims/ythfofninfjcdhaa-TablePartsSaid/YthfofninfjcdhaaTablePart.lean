/-
  The walk of TableParts. By an AI agent.
-/
import Derived.Test.YthfofninfjcdhaaTableLook
set_option linter.unusedSimpArgs false
set_option linter.unusedVariables false
namespace Go.Proofs.Ythfofninfjcdhaa
open Go.RowKit
set_option maxRecDepth 100000 in
set_option maxHeartbeats 4000000 in
/-- TableParts returns true. -/
theorem parts_walk (x c : Int) (w : World) (x0 : 0 ≤ x) (x1 : x ≤ 255) (c0 : 0 ≤ c) (c1 : c ≤ 65535) :
    Calls Try.prog 4 #[.int .u8 x, .int .u16 c] w (Says true w) := by
  obtain ⟨k, hk⟩ : ∃ k, k = x % 10 := ⟨_, rfl⟩
  have hn1 := Tb.grp_pos (log := k) (by omega) (by omega)
  have hn2 := Tb.grp_le k
  have H1 := Lib.hid (fun w => size_any k w)
  have HL := Lib.hid (fun w => limit_any k w)
  have HW := Lib.hid (fun (a : Int) w (h0 : -9223372036854775808 ≤ a) (h1 : a ≤ 9223372036854775807) => where_any k a w h0 h1)
  have HG := Lib.hid (fun (g : Int) w (h0 : -9223372036854775808 ≤ g) (h1 : g ≤ 9223372036854775807) => group_any k g w h0 h1)
  have HS := Lib.hid (fun (g s : Int) w (h0 : -9223372036854775808 ≤ g) (h1 : g ≤ 9223372036854775807) (s0 : -9223372036854775808 ≤ s) (s1 : s ≤ 9223372036854775807) => slot_any k g s w h0 h1 s0 s1)
  have HA := Lib.hid (fun w' => awake_any w')
  have HT := Lib.hid (fun a w' => stripe_any a w')
  generalize Tb.grp k = n at *
  rw [Tb.size_pos hn1] at H1
  go_enter Try.func4, Try.ntmps4
  go_wp2_with fail
  rw [← hk]
  clear hk
  with_reducible refine (H1.out _).mono ?_
  rintro e w1 ⟨rfl, rfl⟩
  go_wp2_with fail
  have a0 : 0 ≤ c % (7 + 9 * (n : Int)) := Int.emod_nonneg _ (by omega)
  have a1 : c % (7 + 9 * (n : Int)) < 7 + 9 * (n : Int) := Int.emod_lt_of_pos _ (by omega)
  generalize c % (7 + 9 * (n : Int)) = a at a0 a1 ⊢
  have WZ := Lib.hid (fun w => HW.out (7 + 9 * (n : Int)) w (by omega) (by omega))
  have WM := Lib.hid (fun w => HW.out (-1) w (by omega) (by omega))
  rw [Tb.plc_none (c := 7 + 9 * (n : Int)) (by omega)] at WZ
  rw [Tb.plc_none (c := -1) (by omega)] at WM
  have WA := Lib.hid (fun w => HW.out a w (by omega) (by omega))
  have TA := Lib.hid (fun w => HT.out a w)
  have t0 : 2 < Tb.strp a := by unfold Tb.strp; omega
  have t1 : Tb.strp a < 7 := by unfold Tb.strp; omega
  have EQ : ∀ w : World, (binOp .eql 27 (.agg #[.int .i64 0, .int .i64 0, .int .i64 0]) (.agg #[.int .i64 0, .int .i64 0, .int .i64 0])).run Try.prog w = .ok (.bool true) w := fun w => by
    have := eq_place 0 0 0 0 0 0 w; simpa using this
  unfold pv at WZ WM
  dsimp only at WZ WM
  clear HW HT
  generalize Tb.strp a = t at *
  rcases Tb.plc_ways n a with ⟨e0, e⟩ | ⟨e0, k0, e⟩ | ⟨e0, k0, k1, e⟩ | ⟨e0, k0, k1, e⟩ | ⟨e0, k0, k1, k2, e⟩ | ⟨e0, k0, k1, k2, e⟩
  · omega
  · omega
  · rw [e] at WA
    clear HG HS
    unfold pv at WA
    dsimp only at WA
    clear e
    with_reducible refine (WA.out _).mono ?_
    rintro e w1 ⟨rfl, b1⟩
    have B1 := Lib.hid (b1.alloc b1.size (.cells #[.int .i64 1, .int .i64 0, .int .i64 0] 27))
    clear b1
    go_wp2_with fail
    with_reducible refine (TA.out _).mono ?_
    rintro e w3 ⟨rfl, rfl⟩
    go_wp2_with fail
    with_reducible refine (WZ.out _).mono ?_
    rintro e w4 ⟨rfl, b4⟩
    have B4 := Lib.hid (below_then B1.out b4)
    clear b4
    go_wp2_with fail
    with_reducible refine (WM.out _).mono ?_
    rintro e w5 ⟨rfl, b5⟩
    have B5 := Lib.hid (below_then B4.out b5)
    clear b5
    go_wp2_with fail
    with_reducible refine (HL.out _).mono ?_
    rintro e w6 ⟨rfl, rfl⟩
    go_wp2_with fail
    with_reducible refine (HA.out _).mono ?_
    rintro e w6 ⟨rfl, b6⟩
    have B6 := Lib.hid (below_then B5.out b6)
    clear b6
    go_wp2
    go_ret
    exact ⟨rfl, B6.out⟩
  · rw [e] at WA
    have G := Lib.hid (fun w => HG.out (a - 7) w (by omega) (by omega))
    rw [Tb.gc_in (by omega) (by omega), show 7 + (a - 7) = a by omega] at G
    clear HG HS
    obtain ⟨g, hg⟩ : ∃ g, g = a - 7 := ⟨_, rfl⟩
    rw [← hg] at G WA e
    clear hg
    unfold pv at WA
    dsimp only at WA
    clear e
    with_reducible refine (WA.out _).mono ?_
    rintro e w1 ⟨rfl, b1⟩
    have B1 := Lib.hid (b1.alloc b1.size (.cells #[.int .i64 2, .int .i64 g, .int .i64 0] 27))
    clear b1
    have CB : Hid (∀ w', Below (w1.alloc (.cells #[.int .i64 2, .int .i64 g, .int .i64 0] 27)).heap.size (w1.alloc (.cells #[.int .i64 2, .int .i64 g, .int .i64 0] 27)) w' → w'.cell? ⟨w1.heap.size, 2, none⟩ = some (.int .i64 0)) := Lib.hid (fun w' hb => by rw [hb.cell (by simp), World.cell?_alloc_new]; rfl)
    go_wp2_with fail
    with_reducible refine (G.out _).mono ?_
    rintro e w2 ⟨rfl, b2⟩
    have B2 := Lib.hid (below_then B1.out b2)
    have cb := CB.out _ b2
    clear b2 CB
    generalize w1.heap.size = pp at cb ⊢
    go_wp2_with fail
    with_reducible refine (TA.out _).mono ?_
    rintro e w3 ⟨rfl, rfl⟩
    go_wp2_with fail
    with_reducible refine (WZ.out _).mono ?_
    rintro e w4 ⟨rfl, b4⟩
    have B4 := Lib.hid (below_then B2.out b4)
    clear b4
    go_wp2_with fail
    with_reducible refine (WM.out _).mono ?_
    rintro e w5 ⟨rfl, b5⟩
    have B5 := Lib.hid (below_then B4.out b5)
    clear b5
    go_wp2_with fail
    with_reducible refine (HL.out _).mono ?_
    rintro e w6 ⟨rfl, rfl⟩
    go_wp2_with fail
    with_reducible refine (HA.out _).mono ?_
    rintro e w6 ⟨rfl, b6⟩
    have B6 := Lib.hid (below_then B5.out b6)
    clear b6
    go_wp2
    go_ret
    exact ⟨rfl, B6.out⟩
  · rw [e] at WA
    have G := Lib.hid (fun w => HS.out ((a - 7 - (n : Int)) / 8) ((a - 7 - (n : Int)) % 8) w (by omega) (by omega) (by omega) (by omega))
    rw [Tb.sc_in (by omega) (by omega) (by omega) (by omega), show 7 + (n : Int) + 8 * ((a - 7 - (n : Int)) / 8) + (a - 7 - (n : Int)) % 8 = a by omega] at G
    clear HG HS
    generalize (a - 7 - (n : Int)) / 8 = g at *
    generalize (a - 7 - (n : Int)) % 8 = r at *
    unfold pv at WA
    dsimp only at WA
    clear e
    with_reducible refine (WA.out _).mono ?_
    rintro e w1 ⟨rfl, b1⟩
    have B1 := Lib.hid (b1.alloc b1.size (.cells #[.int .i64 3, .int .i64 g, .int .i64 r] 27))
    clear b1
    go_wp2_with fail
    with_reducible refine (G.out _).mono ?_
    rintro e w2 ⟨rfl, b2⟩
    have B2 := Lib.hid (below_then B1.out b2)
    clear b2
    go_wp2_with fail
    with_reducible refine (TA.out _).mono ?_
    rintro e w3 ⟨rfl, rfl⟩
    go_wp2_with fail
    with_reducible refine (WZ.out _).mono ?_
    rintro e w4 ⟨rfl, b4⟩
    have B4 := Lib.hid (below_then B2.out b4)
    clear b4
    go_wp2_with fail
    with_reducible refine (WM.out _).mono ?_
    rintro e w5 ⟨rfl, b5⟩
    have B5 := Lib.hid (below_then B4.out b5)
    clear b5
    go_wp2_with fail
    with_reducible refine (HL.out _).mono ?_
    rintro e w6 ⟨rfl, rfl⟩
    go_wp2_with fail
    with_reducible refine (HA.out _).mono ?_
    rintro e w6 ⟨rfl, b6⟩
    have B6 := Lib.hid (below_then B5.out b6)
    clear b6
    go_wp2
    go_ret
    exact ⟨rfl, B6.out⟩
  · omega
end Go.Proofs.Ythfofninfjcdhaa
