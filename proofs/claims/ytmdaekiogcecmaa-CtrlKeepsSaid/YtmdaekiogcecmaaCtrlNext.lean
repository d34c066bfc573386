/-
  The walks of ctrl.Next and ctrl.Claimed, and of the document's own. By an AI agent.
-/
import Derived.Test.YtmdaekiogcecmaaCtrlParts
namespace Go.Proofs.Ytmdaekiogcecmaa
open Go.RowKit
/-- A place and its class. -/
def two (i c : Int) : Value := .tuple #[.int .i64 i, .int .i64 c]
theorem two_eq {a b c d : Int} (h : a = c) (k : b = d) : Ending.returned (.tuple #[.int .i64 a, .int .i64 b]) = .returned (two c d) := by rw [h, k]; rfl
set_option maxRecDepth 100000 in
set_option maxHeartbeats 2000000 in
/-- ctrl.Next, from the place m on. -/
theorem next_from (x a c : Int) (m : Nat) (w : World) (hx0 : 0 ≤ x) (hx1 : x ≤ 18446744073709551615) (ha : (if a < 0 then 0 else a) = (m : Int)) : Calls Try.prog 6 #[.int .u64 x, .int .i64 a, .int .i64 c] w (Same (two (Ct.nxp x a c) (Ct.nxc x a c)) w) := by
  have hle : a ≤ (m : Int) := by split at ha <;> omega
  have hno : Ct.NoN x a c m := Ct.noN_zero (by split at ha <;> omega)
  have Hno := Lib.hid hno; clear hno
  have Hle := Lib.hid hle; clear hle
  go_enter Try.func6, Try.ntmps6
  go_wp2
  go_step3
  go_wp2
  go_step3
  go_wp2
  clear ha
  go_loop [8, 9] (fun i _ => ∃ k : Nat, i = .int .i64 k ∧ Hid (Ct.NoN x a c k) ∧ Hid (a ≤ (k : Int))) (fun i _ => 8 - (intOf i).toNat)
  case atStart => exact ⟨m, rfl, Hno, Hle⟩
  case round =>
    obtain ⟨k, rfl, hn, hk⟩ := hrel
    by_cases hlt : k < 8
    · by_cases h0 : Ct.cls x k c = 0
      · have e0 : (Ct.cls x k c == 0) = true := by simp [h0]
        have H0 := Lib.hid h0; clear h0
        go_wp2_with fail
        with_reducible refine (class_any _ _ _ _ hx0 hx1).mono ?_
        rintro e w' ⟨rfl, rfl⟩
        go_wp2
        go_round
        case rel => exact ⟨k + 1, by go_num, Lib.hid (Ct.noN_succ hn.out (.inr H0.out)), Lib.hid (by have := hk.out; omega)⟩
        case measure => simp [intOf]; omega
      · have e0 : (Ct.cls x k c == 0) = false := by simp [h0]
        have H0 := Lib.hid h0; clear h0
        go_wp2_with fail
        with_reducible refine (class_any _ _ _ _ hx0 hx1).mono ?_
        rintro e w' ⟨rfl, rfl⟩
        go_wp2
        try rw [Exit.noGoto_ret]
        go_ret2
        exact ⟨two_eq (Ct.nxp_here hlt hn.out hk.out H0.out) (Ct.nxc_here hlt hn.out hk.out H0.out), rfl⟩
    · have h8 : ¬ (k : Int) < 8 := by omega
      go_wp2
      try rw [Exit.noGoto_ret]
      go_ret2
      exact ⟨two_eq (Ct.nxp_none (by omega) hn.out) (Ct.nxc_none (by omega) hn.out), rfl⟩
theorem next_any (x a c : Int) (w : World) (hx0 : 0 ≤ x) (hx1 : x ≤ 18446744073709551615) : Calls Try.prog 6 #[.int .u64 x, .int .i64 a, .int .i64 c] w (Same (two (Ct.nxp x a c) (Ct.nxc x a c)) w) :=
  next_from x a c (if a < 0 then 0 else a).toNat w hx0 hx1 (by split <;> omega)
set_option maxRecDepth 100000 in
set_option maxHeartbeats 2000000 in
/-- The document's Next. -/
theorem rnext_any (x a c : Int) (w : World) (hx0 : 0 ≤ x) (hx1 : x ≤ 18446744073709551615) : Calls Try.prog 7 #[.int .u64 x, .int .i64 a, .int .i64 c] w (Same (two (Ct.nxp x a c) (Ct.nxc x a c)) w) := by
  go_enter Try.func7, Try.ntmps7
  go_wp2
  go_loop [8] (fun i => ∃ k : Nat, k ≤ 8 ∧ i = .int .i64 k ∧ Hid (Ct.NoN x a c k)) (fun i => 8 - (intOf i).toNat)
  case atStart => exact ⟨0, by omega, rfl, Lib.hid (Ct.noN_zero (.inr rfl))⟩
  case round =>
    obtain ⟨k, hk8, rfl, hn⟩ := hrel
    by_cases hlt : k < 8
    · by_cases ha : a ≤ (k : Int)
      · by_cases h0 : Ct.cls x k c = 0
        · have e0 : (Ct.cls x k c != 0) = false := by simp [h0]
          have H0 := Lib.hid h0; clear h0
          go_wp2_with fail
          with_reducible refine (rclass_any _ _ _ _ hx0 hx1).mono ?_
          rintro e w' ⟨rfl, rfl⟩
          go_wp2
          go_round
          case rel => exact ⟨k + 1, by omega, by go_num, Lib.hid (Ct.noN_succ hn.out (.inr H0.out))⟩
          case measure => simp [intOf]; omega
        · have e0 : (Ct.cls x k c != 0) = true := by simp [h0]
          have H0 := Lib.hid h0; clear h0
          go_wp2_with fail
          with_reducible refine (rclass_any _ _ _ _ hx0 hx1).mono ?_
          rintro e w' ⟨rfl, rfl⟩
          go_wp2_with fail
          with_reducible refine (rclass_any _ _ _ _ hx0 hx1).mono ?_
          rintro e w' ⟨rfl, rfl⟩
          go_wp2
          go_ret2
          exact ⟨two_eq (Ct.nxp_here hlt hn.out ha H0.out) (Ct.nxc_here hlt hn.out ha H0.out), rfl⟩
      · go_wp2
        go_round
        case rel => exact ⟨k + 1, by omega, by go_num, Lib.hid (Ct.noN_succ hn.out (.inl (by omega)))⟩
        case measure => simp [intOf]; omega
    · obtain rfl : k = 8 := by omega
      go_wp2
      go_ret2
      exact ⟨two_eq (Ct.nxp_none (Nat.le_refl _) hn.out) (Ct.nxc_none (Nat.le_refl _) hn.out), rfl⟩
set_option maxRecDepth 100000 in
set_option maxHeartbeats 2000000 in
/-- ctrl.Claimed. -/
theorem claimed_any (x : Int) (w : World) (hx0 : 0 ≤ x) (hx1 : x ≤ 18446744073709551615) : Calls Try.prog 16 #[.int .u64 x] w (RowOf (Ct.cld x 8) w) := by
  obtain ⟨i0, hi, hz0, hz1, hz2⟩ := info_parts info_int
  have Hz0 := Lib.hid hz0; clear hz0
  have Hz1 := Lib.hid hz1; clear hz1
  have Hz2 := Lib.hid hz2; clear hz2
  have Hi := Lib.hid hi; clear hi
  go_enter Try.func16, Try.ntmps16
  go_wp2
  go_loopw [3, 4, 5] (fun v _ i wr => ∃ k : Nat, k ≤ 8 ∧ i = .int .i64 k ∧ wr.ownsRow w.heap.size 3 1 v (Ct.cld x k).length ((Ct.cld x k).map (Value.int .i64)) ∧ Below w.heap.size w wr)
    (fun _ _ i _ => 8 - (intOf i).toNat)
  case atStart => exact ⟨0, by omega, rfl, World.ownsRow_nil _ _ _ _, Below.refl _ _⟩
  case round =>
    obtain ⟨k, hk, rfl, hown, hB⟩ := hrel
    by_cases hlt : k < 8
    · have hbd := Ln.byt_bd x k
      by_cases hit : 128 ≤ Ln.byt x k
      · have hl := Ct.cld_len x k
        have HC := Lib.hid (fun w => isClaim_yes (Ln.byt x k) w hit hbd.2)
        have Hit := Lib.hid hit; clear hit hbd
        go_wp2_with fail
        with_reducible refine (byte_any _ _ _ hx0 hx1).mono ?_
        rintro e w' ⟨rfl, rfl⟩
        go_wp2_with fail
        with_reducible refine (HC.out _).mono ?_
        rintro e w' ⟨rfl, rfl⟩
        go_wp2_with (at_builtin; refine wpList_append_own _ rfl _ _ 31 rfl w.heap.size 3 i0 (.int .i64 0) 1 8 Try.underlying31 Hi.out Hz0.out Hz1.out Hz2.out rfl (by decide) _ _ _ rfl (hown.alloc _) ⟨wr.heap.size, 0, none⟩ 1 1 [.int .i64 k] rfl rfl ?c1 ?c2 ?c3 ?c4 ?c5 ?_)
        case c1 => exact cell_one_new _ _ _
        case c2 => simp [Value.oneCell']
        case c3 => unfold maxLen; omega
        case c4 => omega
        case c5 => have := hB.size; simp; omega
        intro v' w1 hown' hgrow _
        have hB1 : Below w.heap.size w w1 := (hB.alloc hB.size _).grown hgrow (by have := hB.size; simp; omega) (fun j e => (hown.lt j e).1)
        have hown2 : w1.ownsRow w.heap.size 3 1 v' (Ct.cld x (k + 1)).length ((Ct.cld x (k + 1)).map (Value.int .i64)) := by
          rw [Ct.cld_hit Hit.out]; simpa using hown'
        clear hown' hgrow hown
        go_wp2
        go_roundw
        case rel => exact ⟨k + 1, by omega, by go_num, hown2, hB1⟩
        case measure => simp [intOf]; omega
      · have HC := Lib.hid (fun w => isClaim_no (Ln.byt x k) w (by omega))
        have Hit := Lib.hid hit; clear hit hbd
        go_wp2_with fail
        with_reducible refine (byte_any _ _ _ hx0 hx1).mono ?_
        rintro e w' ⟨rfl, rfl⟩
        go_wp2_with fail
        with_reducible refine (HC.out _).mono ?_
        rintro e w' ⟨rfl, rfl⟩
        go_wp2
        go_roundw
        case rel => exact ⟨k + 1, by omega, by go_num, by rw [Ct.cld_miss (by have := Hit.out; omega)]; exact hown, hB⟩
        case measure => simp [intOf]; omega
    · obtain rfl : k = 8 := by omega
      go_wp2
      go_ret
      exact rowOf_of hown hB
set_option maxRecDepth 100000 in
set_option maxHeartbeats 2000000 in
/-- The document's Claimed. -/
theorem rclaimed_any (x : Int) (w : World) (hx0 : 0 ≤ x) (hx1 : x ≤ 18446744073709551615) : Calls Try.prog 17 #[.int .u64 x] w (RowOf (Ct.cld x 8) w) := by
  obtain ⟨i0, hi, hz0, hz1, hz2⟩ := info_parts info_int
  have Hz0 := Lib.hid hz0; clear hz0
  have Hz1 := Lib.hid hz1; clear hz1
  have Hz2 := Lib.hid hz2; clear hz2
  have Hi := Lib.hid hi; clear hi
  go_enter Try.func17, Try.ntmps17
  go_wp2
  go_loopw [3, 4] (fun v i wr => ∃ k : Nat, k ≤ 8 ∧ i = .int .i64 k ∧ wr.ownsRow w.heap.size 3 1 v (Ct.cld x k).length ((Ct.cld x k).map (Value.int .i64)) ∧ Below w.heap.size w wr)
    (fun _ i _ => 8 - (intOf i).toNat)
  case atStart => exact ⟨0, by omega, rfl, World.ownsRow_lit (size := 1) w #[] 0 (Nat.le_refl _) (by decide) (by decide), (Below.refl _ _).alloc (Nat.le_refl _) _⟩
  case round =>
    obtain ⟨k, hk, rfl, hown, hB⟩ := hrel
    by_cases hlt : k < 8
    · by_cases hit : 128 ≤ Ln.byt x k
      · have hl := Ct.cld_len x k
        have HB := Lib.hid (fun w => rbyte_any x k w hx0 hx1)
        have Hit := Lib.hid hit
        generalize Ln.byt x k = b at HB hit
        go_wp2_with fail
        with_reducible refine (HB.out _).mono ?_
        rintro e w' ⟨rfl, rfl⟩
        go_wp2_with (at_builtin; refine wpList_append_own _ rfl _ _ 31 rfl w.heap.size 3 i0 (.int .i64 0) 1 8 Try.underlying31 Hi.out Hz0.out Hz1.out Hz2.out rfl (by decide) _ _ _ rfl (hown.alloc _) ⟨wr.heap.size, 0, none⟩ 1 1 [.int .i64 k] rfl rfl ?c1 ?c2 ?c3 ?c4 ?c5 ?_)
        case c1 => exact cell_one_new _ _ _
        case c2 => simp [Value.oneCell']
        case c3 => unfold maxLen; omega
        case c4 => omega
        case c5 => have := hB.size; simp; omega
        intro v' w1 hown' hgrow _
        have hB1 : Below w.heap.size w w1 := (hB.alloc hB.size _).grown hgrow (by have := hB.size; simp; omega) (fun j e => (hown.lt j e).1)
        have hown2 : w1.ownsRow w.heap.size 3 1 v' (Ct.cld x (k + 1)).length ((Ct.cld x (k + 1)).map (Value.int .i64)) := by
          rw [Ct.cld_hit Hit.out]; simpa using hown'
        clear hown' hgrow hown
        go_wp2
        go_roundw
        case rel => exact ⟨k + 1, by omega, by go_num, hown2, hB1⟩
        case measure => simp [intOf]; omega
      · have HB := Lib.hid (fun w => rbyte_any x k w hx0 hx1)
        have Hit := Lib.hid hit
        generalize Ln.byt x k = b at HB hit
        go_wp2_with fail
        with_reducible refine (HB.out _).mono ?_
        rintro e w' ⟨rfl, rfl⟩
        go_wp2
        go_roundw
        case rel => exact ⟨k + 1, by omega, by go_num, by rw [Ct.cld_miss (by have := Hit.out; omega)]; exact hown, hB⟩
        case measure => simp [intOf]; omega
    · obtain rfl : k = 8 := by omega
      go_wp2
      go_ret
      exact rowOf_of hown hB
end Go.Proofs.Ytmdaekiogcecmaa
