/-
  The walk of LaneParts: it returns true. By an AI agent.
-/
import Derived.Test.YtjfajnnbmlhpdaaLaneAwake
namespace Go.Proofs.Ytjfajnnbmlhpdaa
open Go.RowKit
set_option maxRecDepth 100000 in
set_option maxHeartbeats 4000000 in
theorem parts_walk (x i b f : Int) (w : World) (hx0 : 0 ≤ x) (hx1 : x ≤ 18446744073709551615) :
    Calls Try.prog 5 #[.int .u64 x, .int .i64 i, .agg #[.int .i64 b, .int .i64 f]] w (Says true w) := by
  have hwb := Ln.wth_bd (x := x) i b hx0 hx1
  have hne : (x != x) = false := by simp
  go_enter Try.func5, Try.ntmps5
  go_wp2
  go_region
  all_goals go_wp2
  go_loop [9, 10] (fun u c => ∃ k : Nat, k ≤ 8 ∧ c = .int .i64 k ∧ u = .int .u64 (x % 256 ^ k)) (fun _ c => 8 - (intOf c).toNat)
  case atStart => exact ⟨0, by omega, rfl, by simp⟩
  case round =>
    obtain ⟨k, hk, rfl, rfl⟩ := hrel
    obtain ⟨p0, p1⟩ := Ln.low_bd x k hk
    by_cases hlt : k < 8
    · have hst := Ln.low_step (x := x) hlt
      have Hst := Lib.hid hst; clear hst
      go_wp2_with (first | (go_at_call 6; refine (byte_any _ _ _ hx0 hx1).mono ?_; rintro e w' ⟨rfl, rfl⟩) | (go_at_call 8; refine (with_any _ _ _ _ p0 p1).mono ?_; rintro e w' ⟨rfl, rfl⟩))
      go_round
      case rel => exact ⟨k + 1, by omega, by go_num, by rw [Hst.out]⟩
      case measure => simp [intOf]; omega
    · obtain rfl : k = 8 := by omega
      have hall := Ln.low_all hx0 hx1
      rw [hall]
      clear p0 p1 hall
      go_wp2_with (go_at_call 8; refine (with_any _ _ _ _ hx0 hx1).mono ?_; rintro e w' ⟨rfl, rfl⟩)
      go_loop [12, 13] (fun c _ => ∃ k : Nat, k ≤ 8 ∧ c = .int .i64 k) (fun c _ => 8 - (intOf c).toNat)
      case atStart => exact ⟨0, by omega, rfl⟩
      case round =>
        obtain ⟨k, hk, rfl⟩ := hrel
        obtain ⟨y0, y1⟩ := hwb
        by_cases hlt : k < 8
        · have hbw := Ln.byt_wth (x := x) (i := i) (b := b) hlt
          by_cases hki : (k : Int) = i
          · have e1 : ((k : Int) == i) = true := by simp [hki]
            by_cases b0 : 0 ≤ b
            · by_cases b1 : b ≤ 255
              · have e2 : (Ln.byt (Ln.wth x i b) k != b) = false := by rw [hbw, if_pos ⟨hki, b0, b1⟩]; simp
                clear hbw hki
                go_wp2_with fail
                with_reducible refine (byte_any _ _ _ hx0 hx1).mono ?_
                rintro e w1 ⟨rfl, rfl⟩
                go_wp2_with fail
                with_reducible refine (byte_any _ _ _ y0 y1).mono ?_
                rintro e w1 ⟨rfl, rfl⟩
                go_wp2
                go_round
                case rel => exact ⟨k + 1, by omega, by go_num⟩
                case measure => simp [intOf]; omega
              · have e2 : (Ln.byt (Ln.wth x i b) k != Ln.byt x k) = false := by rw [hbw, if_neg (by omega)]; simp
                clear hbw hki
                go_wp2_with fail
                with_reducible refine (byte_any _ _ _ hx0 hx1).mono ?_
                rintro e w1 ⟨rfl, rfl⟩
                go_wp2_with fail
                with_reducible refine (byte_any _ _ _ y0 y1).mono ?_
                rintro e w1 ⟨rfl, rfl⟩
                go_wp2
                go_round
                case rel => exact ⟨k + 1, by omega, by go_num⟩
                case measure => simp [intOf]; omega
            · have e2 : (Ln.byt (Ln.wth x i b) k != Ln.byt x k) = false := by rw [hbw, if_neg (by omega)]; simp
              clear hbw hki
              go_wp2_with fail
              with_reducible refine (byte_any _ _ _ hx0 hx1).mono ?_
              rintro e w1 ⟨rfl, rfl⟩
              go_wp2_with fail
              with_reducible refine (byte_any _ _ _ y0 y1).mono ?_
              rintro e w1 ⟨rfl, rfl⟩
              go_wp2
              go_round
              case rel => exact ⟨k + 1, by omega, by go_num⟩
              case measure => simp [intOf]; omega
          · have e1 : ((k : Int) == i) = false := by simp [hki]
            have e2 : (Ln.byt (Ln.wth x i b) k != Ln.byt x k) = false := by rw [hbw, if_neg (by omega)]; simp
            clear hbw hki
            go_wp2_with fail
            with_reducible refine (byte_any _ _ _ hx0 hx1).mono ?_
            rintro e w1 ⟨rfl, rfl⟩
            go_wp2_with fail
            with_reducible refine (byte_any _ _ _ y0 y1).mono ?_
            rintro e w1 ⟨rfl, rfl⟩
            go_wp2
            go_round
            case rel => exact ⟨k + 1, by omega, by go_num⟩
            case measure => simp [intOf]; omega
        · obtain rfl : k = 8 := by omega
          have hfb := Ln.filL_bd (x := x) b (Ln.plc x f) hx0 hx1
          obtain ⟨z0, z1⟩ : 0 ≤ Ln.fil x f b ∧ Ln.fil x f b ≤ 18446744073709551615 := hfb
          by_cases hb : 0 ≤ b ∧ b ≤ 255
          · obtain ⟨b0, b1⟩ := hb
            have b0' : ¬ b < 0 := by omega
            have b1' : ¬ 255 < b := by omega
            by_cases hfb : f = b
            · have e1 : (f == b) = true := by simp [hfb]
              clear hfb
              go_wp2_with fail
              with_reducible refine (fill_any _ _ _ hx0 hx1 _).mono ?_
              rintro e w1 ⟨rfl, c1⟩
              go_wp2_with fail
              with_reducible refine (awake_any _).mono ?_
              rintro e w2 ⟨rfl, c2⟩
              go_wp2
              go_ret
              exact ⟨rfl, below_then (below_then (((Below.refl _ _).alloc (Nat.le_refl _) _).drew) c1) c2⟩
            · have e1 : (f == b) = false := by simp [hfb]
              have C1 := count_any (Ln.fil x f b) f z0 z1
              have C2 := count_any (Ln.fil x f b) b z0 z1
              have C3 := count_any x b hx0 hx1
              have C4 := count_any x f hx0 hx1
              rw [Ln.cnt_none b0 b1 hfb] at C1
              rw [Ln.cnt_add b0 b1 hfb] at C2
              have l3 := Ln.plc_len x b
              have l4 := Ln.plc_len x f
              generalize (Ln.plc x b).length = p at C2 C3 l3
              generalize (Ln.plc x f).length = q at C2 C4 l4
              have C2' : ∀ w, Calls Try.prog 16 #[.int .u64 (Ln.fil x f b), .int .i64 b] w (GivesInt ((p : Int) + (q : Int)) w) := fun w => by have := C2 w; rwa [Int.natCast_add] at this
              have D1 := Lib.hid C1; clear C1
              have D2 := Lib.hid C2'; clear C2 C2'
              have D3 := Lib.hid C3; clear C3
              have D4 := Lib.hid C4; clear C4
              have e2 : ((p : Int) + (q : Int) == (p : Int) + (q : Int)) = true := by simp
              clear hfb
              go_wp2_with fail
              with_reducible refine (fill_any _ _ _ hx0 hx1 _).mono ?_
              rintro e w1 ⟨rfl, c1⟩
              go_wp2_with fail
              refine (D1.out _).mono ?_
              rintro e w2 ⟨rfl, c2⟩
              go_wp2_with fail
              with_reducible refine (D2.out _).mono ?_
              rintro e w3 ⟨rfl, c3⟩
              go_wp2_with fail
              with_reducible refine (D3.out _).mono ?_
              rintro e w4 ⟨rfl, c4⟩
              go_wp2_with fail
              with_reducible refine (D4.out _).mono ?_
              rintro e w5 ⟨rfl, c5⟩
              go_wp2_with fail
              with_reducible refine (awake_any _).mono ?_
              rintro e w6 ⟨rfl, c6⟩
              go_wp2
              go_ret
              exact ⟨rfl, below_then (below_then (below_then (below_then (below_then (below_then (((Below.refl _ _).alloc (Nat.le_refl _) _).drew) c1) c2) c3) c4) c5) c6⟩
          · have hbo : b < 0 ∨ 255 < b := by omega
            have e1 : (Ln.fil x f b == x) = true := by rw [Ln.fil_out hbo]; simp
            rcases hbo with hbo | hbo
            · go_wp2_with fail
              with_reducible refine (fill_any _ _ _ hx0 hx1 _).mono ?_
              rintro e w1 ⟨rfl, c1⟩
              go_wp2_with fail
              with_reducible refine (awake_any _).mono ?_
              rintro e w2 ⟨rfl, c2⟩
              go_wp2
              go_ret
              exact ⟨rfl, below_then (below_then (((Below.refl _ _).alloc (Nat.le_refl _) _).drew) c1) c2⟩
            · have b0' : ¬ b < 0 := by omega
              go_wp2_with fail
              with_reducible refine (fill_any _ _ _ hx0 hx1 _).mono ?_
              rintro e w1 ⟨rfl, c1⟩
              go_wp2_with fail
              with_reducible refine (awake_any _).mono ?_
              rintro e w2 ⟨rfl, c2⟩
              go_wp2
              go_ret
              exact ⟨rfl, below_then (below_then (((Below.refl _ _).alloc (Nat.le_refl _) _).drew) c1) c2⟩
end Go.Proofs.Ytjfajnnbmlhpdaa
