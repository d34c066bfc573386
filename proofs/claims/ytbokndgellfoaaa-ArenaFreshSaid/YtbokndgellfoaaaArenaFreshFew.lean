/-
  The walks of ArenaFresh at long lists, and at none. By an AI agent.
-/
import Derived.Test.YtbokndgellfoaaaArenaFresh
set_option linter.unusedSimpArgs false
namespace Go.Proofs.Ytbokndgellfoaaa
open Go.RowKit Go.Maps
open Mm (Mem Blk)
set_option maxRecDepth 100000 in
set_option maxHeartbeats 2000000 in
theorem fresh_long (A : Option Addr) (len cap : Nat) (c : Int) (w : World) (hm : len ≤ 9223372036854775807) (h : 60 < len) :
    Calls Try.prog 5 #[.int .u8 c, .slice A len cap] w (Gives (.bool true) w) := by
  have h60 : (60 : Int) < (len : Int) := by omega
  go_enter Try.func5, Try.ntmps5
  go_wp2_with fail
  with_reducible refine (awake_any _).mono ?_
  rintro e w1 ⟨rfl, hb⟩
  go_wp2_with fail
  go_ret
  exact ⟨rfl, hb⟩
set_option maxRecDepth 100000 in
set_option maxHeartbeats 2000000 in
theorem fresh_zero (A : Option Addr) (cap : Nat) (c : Nat) (w : World) (h0 : c < 256) :
    Calls Try.prog 5 #[.int .u8 (c : Int), .slice A 0 cap] w (Gives (.bool true) w) := by
  have KN : Hid (Calls Try.prog 7 #[.int .i64 ((c : Int) + 1)] w fun e w' => e = .returned (.pointer (some ⟨w.heap.size + 1, 0, none⟩)) ∧ ∃ F, Ax w.heap.size w' (w.heap.size + 1) ⟨c + 1, 0, 0, []⟩ F ∧ Below w.heap.size w w' ∧ w.heap.size + 2 = w'.heap.size) := Lib.hid (new_ok (c + 1) (by omega) (by omega) w)
  go_enter Try.func5, Try.ntmps5
  go_wp2_with fail
  with_reducible refine KN.out.mono ?_
  rintro e w1 ⟨rfl, F1, ha1, hb1, hs1⟩
  have HA1 := Lib.hid (ha1.below ((Below.refl _ w1).alloc (Nat.le_refl _) (.cells #[] 27)) (Nat.le_refl _)); clear ha1
  have HB1 := Lib.hid (hb1.trans ((Below.refl _ w1).alloc (by omega) (.cells #[] 27))); clear hb1 hs1
  have KB := Lib.hid (blocks_any HA1.out (Nat.zero_le _))
  go_wp2_with fail
  refine wp_loop_rounds 1 ?_
  simp only [rounds_succ]
  go_wp2_with fail
  with_reducible refine KB.out.mono ?_
  rintro e w2 ⟨v, ts, rfl, ht, hr, hnil, hb2⟩
  have HB2 := Lib.hid (HB1.out.trans (hb2.mono HB1.out.size)); clear hb2
  obtain rfl : v = .slice none 0 0 := hnil.2 ht
  clear hr hnil ht
  go_wp2_with fail
  with_reducible refine (awake_any _).mono ?_
  rintro e w3 ⟨rfl, hb3⟩
  go_wp2_with fail
  go_ret
  exact ⟨rfl, HB2.out.trans (hb3.mono HB2.out.size)⟩
end Go.Proofs.Ytbokndgellfoaaa
