/-
  Several texts in one: The walks of ctrl.Class, Next, Claim, Seal, Claimed, and of the document's own; The walks of ctrl.Next and ctrl.Claimed, and of the document's own; The walks of Groups and Start, the program's and the document's, and of the comparison of two lists of numbers; The walks of route.All: the function that hands the groups out, for whatever loop body. By an AI agent.
-/
import Derived.Test.YtknefjigdlbacaaGreatDoorSkGAC
import Derived.Test.YtknefjigdlbacaaGreatDoorSkGAN
import Derived.Test.YtknefjigdlbacaaGreatDoorSkGAH
import Derived.Test.YtknefjigdlbacaaGreatDoorSkGAD
import Derived.WalkKit
import Derived.WalkSpells
import Derived.WalkLawsBesides
import Derived.WalkMore
import Derived.Below
import Derived.Lib.Hide
import Derived.IntWalk
import Derived.OwnWalk
import Derived.Maps.AppendAt
import Derived.Laws.OwnMore
import Derived.RangeFuncBox
import Derived.RangeFuncNested
import Derived.RangeFuncBound
import Derived.RangeFuncCalls
import Derived.RangeFuncLeaves
import Derived.Shelf.Abstract
import Derived.Shelf.RegionOpen
import Derived.OwnWalkIn
import Derived.TacticsInMore
import Derived.LoopNIn
import Derived.LoopIn
namespace Go.Proofs.YtknefjigdlbacaaGreatDoor
open Go.RowKit
set_option maxHeartbeats 1000000 in
theorem isClaim_yes (i : Int) (w : World) (h0 : 128 ≤ i) (h1 : i ≤ 255) : Calls Tryz.prog 125 #[.int .i64 i] w (Same (.bool true) w) := by
  go_enter Tryz.func125, Tryz.ntmps125
  go_wp2
  go_ret
  exact ⟨rfl, rfl⟩
set_option maxHeartbeats 1000000 in
theorem isClaim_no (i : Int) (w : World) (h : i < 128 ∨ 255 < i) : Calls Tryz.prog 125 #[.int .i64 i] w (Same (.bool false) w) := by
  rcases h with h | h
  · have h' : ¬ 128 ≤ i := by omega
    go_enter Tryz.func125, Tryz.ntmps125
    go_wp2
    go_ret
    exact ⟨rfl, rfl⟩
  · have h' : 128 ≤ i := by omega
    have h'' : ¬ i ≤ 255 := by omega
    go_enter Tryz.func125, Tryz.ntmps125
    go_wp2
    go_ret
    exact ⟨rfl, rfl⟩
theorem isClaim_any (i : Int) (w : World) : Calls Tryz.prog 125 #[.int .i64 i] w (Same (.bool (decide (128 ≤ i ∧ i ≤ 255))) w) := by
  by_cases h : 128 ≤ i ∧ i ≤ 255
  · rw [decide_eq_true h]; exact isClaim_yes i w h.1 h.2
  · rw [decide_eq_false h]; exact isClaim_no i w (by omega)
set_option maxHeartbeats 1000000 in
/-- ctrl.Class. -/
theorem class_any (x i c : Int) (w : World) (hx0 : 0 ≤ x) (hx1 : x ≤ 18446744073709551615) : Calls Tryz.prog 134 #[.int .u64 x, .int .i64 i, .int .i64 c] w (Same (.int .i64 (Ct.cls x i c)) w) := by
  have HB := Lib.hid (fun w => byte_any x i w hx0 hx1)
  by_cases h0 : Ln.byt x i = 0
  · have e0 : (Ln.byt x i == 0) = true := by simp [h0]
    have E := Lib.hid (Ct.cls_free c h0); clear h0
    generalize Ln.byt x i = b at HB e0
    go_enter Tryz.func134, Tryz.ntmps134
    go_wp2_with fail
    with_reducible refine (HB.out _).mono ?_
    rintro e w' ⟨rfl, rfl⟩
    go_wp2
    go_ret
    exact ⟨ret_int E.out.symm, rfl⟩
  · by_cases h1 : Ln.byt x i = 1
    · have e0 : (Ln.byt x i == 0) = false := by simp [h0]
      have e1 : (Ln.byt x i == 1) = true := by simp [h1]
      have E := Lib.hid (Ct.cls_shut c h1); clear h0 h1
      generalize Ln.byt x i = b at HB e0 e1
      go_enter Tryz.func134, Tryz.ntmps134
      go_wp2_with fail
      with_reducible refine (HB.out _).mono ?_
      rintro e w' ⟨rfl, rfl⟩
      go_wp2
      go_ret
      exact ⟨ret_int E.out.symm, rfl⟩
    · have e0 : (Ln.byt x i == 0) = false := by simp [h0]
      have e1 : (Ln.byt x i == 1) = false := by simp [h1]
      by_cases h2 : Ln.byt x i = c
      · have e2 : (Ln.byt x i == c) = true := by simp [h2]
        by_cases h3 : 128 ≤ c ∧ c ≤ 255
        · have E := Lib.hid (Ct.cls_own h0 h1 h2 h3.1 h3.2); clear h0 h1 h2
          have HC := Lib.hid (fun w => isClaim_yes c w h3.1 h3.2); clear h3
          generalize Ln.byt x i = b at HB e0 e1 e2
          go_enter Tryz.func134, Tryz.ntmps134
          go_wp2_with fail
          with_reducible refine (HB.out _).mono ?_
          rintro e w' ⟨rfl, rfl⟩
          go_wp2_with fail
          with_reducible refine (HC.out _).mono ?_
          rintro e w' ⟨rfl, rfl⟩
          go_wp2
          go_ret
          exact ⟨ret_int E.out.symm, rfl⟩
        · have E := Lib.hid (Ct.cls_other h0 h1 (fun q => h3 q.2)); clear h0 h1 h2
          have HC := Lib.hid (fun w => isClaim_no c w (by omega)); clear h3
          generalize Ln.byt x i = b at HB e0 e1 e2
          go_enter Tryz.func134, Tryz.ntmps134
          go_wp2_with fail
          with_reducible refine (HB.out _).mono ?_
          rintro e w' ⟨rfl, rfl⟩
          go_wp2_with fail
          with_reducible refine (HC.out _).mono ?_
          rintro e w' ⟨rfl, rfl⟩
          go_wp2
          go_ret
          exact ⟨ret_int E.out.symm, rfl⟩
      · have e2 : (Ln.byt x i == c) = false := by simp [h2]
        have E := Lib.hid (Ct.cls_other h0 h1 (fun q => h2 q.1)); clear h0 h1 h2
        generalize Ln.byt x i = b at HB e0 e1 e2
        go_enter Tryz.func134, Tryz.ntmps134
        go_wp2_with fail
        with_reducible refine (HB.out _).mono ?_
        rintro e w' ⟨rfl, rfl⟩
        go_wp2
        go_ret
        exact ⟨ret_int E.out.symm, rfl⟩
set_option maxHeartbeats 1000000 in
/-- The document's Class. -/
theorem rclass_any (x i c : Int) (w : World) (hx0 : 0 ≤ x) (hx1 : x ≤ 18446744073709551615) : Calls Tryz.prog 102 #[.int .u64 x, .int .i64 i, .int .i64 c] w (Same (.int .i64 (Ct.cls x i c)) w) := by
  have HB := Lib.hid (fun w => rbyte_any x i w hx0 hx1)
  have hb := Ln.byt_bd x i
  by_cases h0 : Ln.byt x i = 0
  · have e0 : (Ln.byt x i == 0) = true := by simp [h0]
    have E := Lib.hid (Ct.cls_free c h0); clear h0 hb
    generalize Ln.byt x i = b at HB e0
    go_enter Tryz.func102, Tryz.ntmps102
    go_wp2_with fail
    with_reducible refine (HB.out _).mono ?_
    rintro e w' ⟨rfl, rfl⟩
    go_wp2
    go_ret
    exact ⟨ret_int E.out.symm, rfl⟩
  · by_cases h1 : Ln.byt x i = 1
    · have e0 : (Ln.byt x i == 0) = false := by simp [h0]
      have e1 : (Ln.byt x i == 1) = true := by simp [h1]
      have E := Lib.hid (Ct.cls_shut c h1); clear h0 h1 hb
      generalize Ln.byt x i = b at HB e0 e1
      go_enter Tryz.func102, Tryz.ntmps102
      go_wp2_with fail
      with_reducible refine (HB.out _).mono ?_
      rintro e w' ⟨rfl, rfl⟩
      go_wp2
      go_ret
      exact ⟨ret_int E.out.symm, rfl⟩
    · have e0 : (Ln.byt x i == 0) = false := by simp [h0]
      have e1 : (Ln.byt x i == 1) = false := by simp [h1]
      by_cases h3 : 128 ≤ Ln.byt x i
      · by_cases h2 : Ln.byt x i = c
        · have e2 : (Ln.byt x i == c) = true := by simp [h2]
          have E := Lib.hid (Ct.cls_own h0 h1 h2 (by omega) (by omega)); clear h0 h1 h2 hb
          generalize Ln.byt x i = b at HB e0 e1 e2 h3
          go_enter Tryz.func102, Tryz.ntmps102
          go_wp2_with fail
          with_reducible refine (HB.out _).mono ?_
          rintro e w' ⟨rfl, rfl⟩
          go_wp2
          go_ret
          exact ⟨ret_int E.out.symm, rfl⟩
        · have e2 : (Ln.byt x i == c) = false := by simp [h2]
          have E := Lib.hid (Ct.cls_other h0 h1 (fun q => h2 q.1)); clear h0 h1 h2 hb
          generalize Ln.byt x i = b at HB e0 e1 e2 h3
          go_enter Tryz.func102, Tryz.ntmps102
          go_wp2_with fail
          with_reducible refine (HB.out _).mono ?_
          rintro e w' ⟨rfl, rfl⟩
          go_wp2
          go_ret
          exact ⟨ret_int E.out.symm, rfl⟩
      · have E := Lib.hid (Ct.cls_other (c := c) h0 h1 (by omega)); clear h0 h1 hb
        generalize Ln.byt x i = b at HB e0 e1 h3
        go_enter Tryz.func102, Tryz.ntmps102
        go_wp2_with fail
        with_reducible refine (HB.out _).mono ?_
        rintro e w' ⟨rfl, rfl⟩
        go_wp2
        go_ret
        exact ⟨ret_int E.out.symm, rfl⟩
set_option maxHeartbeats 1000000 in
/-- ctrl.Claim. -/
theorem cclaim_any (x i c : Int) (w : World) (hx0 : 0 ≤ x) (hx1 : x ≤ 18446744073709551615) : Calls Tryz.prog 80 #[.int .u64 x, .int .i64 i, .int .i64 c] w (Same (.int .u64 (Ct.clm x i c)) w) := by
  have HB := Lib.hid (fun w => byte_any x i w hx0 hx1)
  have HW := Lib.hid (fun w => with_any x i c w hx0 hx1)
  by_cases h0 : Ln.byt x i = 0
  · have e0 : (Ln.byt x i != 0) = false := by simp [h0]
    by_cases h3 : 128 ≤ c ∧ c ≤ 255
    · have E := Lib.hid (Ct.clm_yes h0 h3.1 h3.2); clear h0
      have HC := Lib.hid (fun w => isClaim_yes c w h3.1 h3.2); clear h3
      generalize Ln.byt x i = b at HB e0
      go_enter Tryz.func80, Tryz.ntmps80
      go_wp2_with fail
      with_reducible refine (HB.out _).mono ?_
      rintro e w' ⟨rfl, rfl⟩
      go_wp2_with fail
      with_reducible refine (HC.out _).mono ?_
      rintro e w' ⟨rfl, rfl⟩
      go_wp2_with fail
      with_reducible refine (HW.out _).mono ?_
      rintro e w' ⟨rfl, rfl⟩
      go_wp2
      go_ret
      exact ⟨ret_int E.out.symm, rfl⟩
    · have E := Lib.hid (Ct.clm_no (x := x) (i := i) (c := c) (fun q => h3 q.2)); clear h0
      have HC := Lib.hid (fun w => isClaim_no c w (by omega)); clear h3
      generalize Ln.byt x i = b at HB e0
      go_enter Tryz.func80, Tryz.ntmps80
      go_wp2_with fail
      with_reducible refine (HB.out _).mono ?_
      rintro e w' ⟨rfl, rfl⟩
      go_wp2_with fail
      with_reducible refine (HC.out _).mono ?_
      rintro e w' ⟨rfl, rfl⟩
      go_wp2
      go_ret
      exact ⟨ret_int E.out.symm, rfl⟩
  · have e0 : (Ln.byt x i != 0) = true := by simp [h0]
    have E := Lib.hid (Ct.clm_no (x := x) (i := i) (c := c) (fun q => h0 q.1)); clear h0
    generalize Ln.byt x i = b at HB e0
    go_enter Tryz.func80, Tryz.ntmps80
    go_wp2_with fail
    with_reducible refine (HB.out _).mono ?_
    rintro e w' ⟨rfl, rfl⟩
    go_wp2
    go_ret
    exact ⟨ret_int E.out.symm, rfl⟩
set_option maxHeartbeats 1000000 in
/-- The document's Claim. -/
theorem rcclaim_any (x i c : Int) (w : World) (hx0 : 0 ≤ x) (hx1 : x ≤ 18446744073709551615) : Calls Tryz.prog 51 #[.int .u64 x, .int .i64 i, .int .i64 c] w (Gives (.int .u64 (Ct.clm x i c)) w) := by
  have HB := Lib.hid (fun w => rbyte_any x i w hx0 hx1)
  have HW := Lib.hid (fun w => rwith_any x i c w hx0 hx1)
  by_cases c0 : c < 128
  · have E := Lib.hid (Ct.clm_no (x := x) (i := i) (c := c) (by omega))
    go_enter Tryz.func51, Tryz.ntmps51
    go_wp2
    go_ret
    exact ⟨ret_int E.out.symm, Below.refl _ _⟩
  · by_cases c1 : 255 < c
    · have E := Lib.hid (Ct.clm_no (x := x) (i := i) (c := c) (by omega))
      go_enter Tryz.func51, Tryz.ntmps51
      go_wp2
      go_ret
      exact ⟨ret_int E.out.symm, Below.refl _ _⟩
    · by_cases h0 : Ln.byt x i = 0
      · have e0 : (Ln.byt x i != 0) = false := by simp [h0]
        have E := Lib.hid (Ct.clm_yes (c := c) h0 (by omega) (by omega)); clear h0
        generalize Ln.byt x i = b at HB e0
        go_enter Tryz.func51, Tryz.ntmps51
        go_wp2_with fail
        with_reducible refine (HB.out _).mono ?_
        rintro e w' ⟨rfl, rfl⟩
        go_wp2_with fail
        with_reducible refine (HW.out _).mono ?_
        rintro e w' ⟨rfl, hb⟩
        go_wp2
        go_ret
        exact ⟨ret_int E.out.symm, hb⟩
      · have e0 : (Ln.byt x i != 0) = true := by simp [h0]
        have E := Lib.hid (Ct.clm_no (x := x) (i := i) (c := c) (fun q => h0 q.1)); clear h0
        generalize Ln.byt x i = b at HB e0
        go_enter Tryz.func51, Tryz.ntmps51
        go_wp2_with fail
        with_reducible refine (HB.out _).mono ?_
        rintro e w' ⟨rfl, rfl⟩
        go_wp2
        go_ret
        exact ⟨ret_int E.out.symm, Below.refl _ _⟩
end Go.Proofs.YtknefjigdlbacaaGreatDoor
namespace Go.Proofs.YtknefjigdlbacaaGreatDoor
open Go.RowKit
/-- A place and its class. -/
def ctwo (i c : Int) : Value := .tuple #[.int .i64 i, .int .i64 c]
theorem ctwo_eq {a b c d : Int} (h : a = c) (k : b = d) : Ending.returned (.tuple #[.int .i64 a, .int .i64 b]) = .returned (ctwo c d) := by rw [h, k]; rfl
set_option maxRecDepth 100000 in
set_option maxHeartbeats 2000000 in
/-- ctrl.Next, from the place m on. -/
theorem ctnext_from (x a c : Int) (m : Nat) (w : World) (hx0 : 0 ≤ x) (hx1 : x ≤ 18446744073709551615) (ha : (if a < 0 then 0 else a) = (m : Int)) : Calls Tryz.prog 97 #[.int .u64 x, .int .i64 a, .int .i64 c] w (Same (ctwo (Ct.nxp x a c) (Ct.nxc x a c)) w) := by
  have hle : a ≤ (m : Int) := by split at ha <;> omega
  have hno : Ct.NoN x a c m := Ct.noN_zero (by split at ha <;> omega)
  have Hno := Lib.hid hno; clear hno
  have Hle := Lib.hid hle; clear hle
  go_enter Tryz.func97, Tryz.ntmps97
  go_wp2
  go_step3
  go_wp2
  go_step3
  go_wp2
  clear ha
  go_loop [8, 9] (fun i _ => ∃ k : Nat, i = .int .i64 k ∧ Hid (Ct.NoN x a c k) ∧ Hid (a ≤ (k : Int))) (fun i _ => 8 - (intOf i).toNat)
  case atStart => exact ⟨m, rfl, Hno, Hle⟩
  case round =>
    obtain ⟨k, rfl, hn, hk⟩ := hrel
    by_cases hlt : k < 8
    · by_cases h0 : Ct.cls x k c = 0
      · have e0 : (Ct.cls x k c == 0) = true := by simp [h0]
        have H0 := Lib.hid h0; clear h0
        go_wp2_with fail
        with_reducible refine (class_any _ _ _ _ hx0 hx1).mono ?_
        rintro e w' ⟨rfl, rfl⟩
        go_wp2
        go_round
        case rel => exact ⟨k + 1, by go_num, Lib.hid (Ct.noN_succ hn.out (.inr H0.out)), Lib.hid (by have := hk.out; omega)⟩
        case measure => simp [intOf]; omega
      · have e0 : (Ct.cls x k c == 0) = false := by simp [h0]
        have H0 := Lib.hid h0; clear h0
        go_wp2_with fail
        with_reducible refine (class_any _ _ _ _ hx0 hx1).mono ?_
        rintro e w' ⟨rfl, rfl⟩
        go_wp2
        try rw [Exit.noGoto_ret]
        go_ret2
        exact ⟨ctwo_eq (Ct.nxp_here hlt hn.out hk.out H0.out) (Ct.nxc_here hlt hn.out hk.out H0.out), rfl⟩
    · have h8 : ¬ (k : Int) < 8 := by omega
      go_wp2
      try rw [Exit.noGoto_ret]
      go_ret2
      exact ⟨ctwo_eq (Ct.nxp_none (by omega) hn.out) (Ct.nxc_none (by omega) hn.out), rfl⟩
theorem ctnext_any (x a c : Int) (w : World) (hx0 : 0 ≤ x) (hx1 : x ≤ 18446744073709551615) : Calls Tryz.prog 97 #[.int .u64 x, .int .i64 a, .int .i64 c] w (Same (ctwo (Ct.nxp x a c) (Ct.nxc x a c)) w) :=
  ctnext_from x a c (if a < 0 then 0 else a).toNat w hx0 hx1 (by split <;> omega)
set_option maxRecDepth 100000 in
set_option maxHeartbeats 2000000 in
/-- The document's Next. -/
theorem rctnext_any (x a c : Int) (w : World) (hx0 : 0 ≤ x) (hx1 : x ≤ 18446744073709551615) : Calls Tryz.prog 48 #[.int .u64 x, .int .i64 a, .int .i64 c] w (Same (ctwo (Ct.nxp x a c) (Ct.nxc x a c)) w) := by
  go_enter Tryz.func48, Tryz.ntmps48
  go_wp2
  go_loop [8] (fun i => ∃ k : Nat, k ≤ 8 ∧ i = .int .i64 k ∧ Hid (Ct.NoN x a c k)) (fun i => 8 - (intOf i).toNat)
  case atStart => exact ⟨0, by omega, rfl, Lib.hid (Ct.noN_zero (.inr rfl))⟩
  case round =>
    obtain ⟨k, hk8, rfl, hn⟩ := hrel
    by_cases hlt : k < 8
    · by_cases ha : a ≤ (k : Int)
      · by_cases h0 : Ct.cls x k c = 0
        · have e0 : (Ct.cls x k c != 0) = false := by simp [h0]
          have H0 := Lib.hid h0; clear h0
          go_wp2_with fail
          with_reducible refine (rclass_any _ _ _ _ hx0 hx1).mono ?_
          rintro e w' ⟨rfl, rfl⟩
          go_wp2
          go_round
          case rel => exact ⟨k + 1, by omega, by go_num, Lib.hid (Ct.noN_succ hn.out (.inr H0.out))⟩
          case measure => simp [intOf]; omega
        · have e0 : (Ct.cls x k c != 0) = true := by simp [h0]
          have H0 := Lib.hid h0; clear h0
          go_wp2_with fail
          with_reducible refine (rclass_any _ _ _ _ hx0 hx1).mono ?_
          rintro e w' ⟨rfl, rfl⟩
          go_wp2_with fail
          with_reducible refine (rclass_any _ _ _ _ hx0 hx1).mono ?_
          rintro e w' ⟨rfl, rfl⟩
          go_wp2
          go_ret2
          exact ⟨ctwo_eq (Ct.nxp_here hlt hn.out ha H0.out) (Ct.nxc_here hlt hn.out ha H0.out), rfl⟩
      · go_wp2
        go_round
        case rel => exact ⟨k + 1, by omega, by go_num, Lib.hid (Ct.noN_succ hn.out (.inl (by omega)))⟩
        case measure => simp [intOf]; omega
    · obtain rfl : k = 8 := by omega
      go_wp2
      go_ret2
      exact ⟨ctwo_eq (Ct.nxp_none (Nat.le_refl _) hn.out) (Ct.nxc_none (Nat.le_refl _) hn.out), rfl⟩
end Go.Proofs.YtknefjigdlbacaaGreatDoor
namespace Go.Proofs.YtknefjigdlbacaaGreatDoor
open Go.RowKit
set_option maxHeartbeats 2000000 in
/-- route.Groups. -/
theorem rtgroups_any (log : Int) (w : World) : Calls Tryz.prog 70 #[.int .i64 log] w (Same (.int .i64 (Rt.grp log : Nat)) w) := by
  by_cases h : 0 ≤ log
  · have h' : ¬ log < 0 := by omega
    by_cases h2 : 9 < log
    · rw [Rt.grp_out (.inr h2)]
      go_enter Tryz.func70, Tryz.ntmps70
      go_wp2
      go_ret
      exact ⟨rfl, rfl⟩
    · rcases Rt.ten h (by omega) with rfl | rfl | rfl | rfl | rfl | rfl | rfl | rfl | rfl | rfl
      all_goals
        go_enter Tryz.func70, Tryz.ntmps70
        go_wp2
        go_ret
        exact ⟨rfl, rfl⟩
  · have h' : log < 0 := by omega
    rw [Rt.grp_out (.inl h')]
    go_enter Tryz.func70, Tryz.ntmps70
    go_wp2
    go_ret
    exact ⟨rfl, rfl⟩
set_option maxRecDepth 100000 in
set_option maxHeartbeats 2000000 in
/-- The document's Groups: doublings. -/
theorem rtrgroups_any (log : Int) (w : World) : Calls Tryz.prog 75 #[.int .i64 log] w (Same (.int .i64 (Rt.grp log : Nat)) w) := by
  by_cases h : 0 ≤ log
  · have h' : ¬ log < 0 := by omega
    by_cases h2 : 9 < log
    · rw [Rt.grp_out (.inr h2)]
      go_enter Tryz.func75, Tryz.ntmps75
      go_wp2
      go_ret
      exact ⟨rfl, rfl⟩
    · rw [Rt.grp_in h (by omega)]
      go_enter Tryz.func75, Tryz.ntmps75
      go_wp2
      go_loop [3, 4] (fun u c => ∃ k : Nat, (k : Int) ≤ log ∧ c = .int .i64 k ∧ u = .int .i64 ((2 ^ k : Nat) : Int)) (fun _ c => (log - intOf c).toNat)
      case atStart => exact ⟨0, by omega, rfl, rfl⟩
      case round =>
        obtain ⟨k, hk, rfl, rfl⟩ := hrel
        have hp : 2 ^ k ≤ 2 ^ 9 := Nat.pow_le_pow_right (by omega) (by omega)
        have hp1 : (2 ^ k : Nat) ≤ 512 := hp
        clear hp
        by_cases hlt : (k : Int) < log
        · have hpw : ((2 ^ (k + 1) : Nat) : Int) = 2 * ((2 ^ k : Nat) : Int) := by rw [Nat.pow_succ]; omega
          have Hpw := Lib.hid hpw; clear hpw
          generalize hq : (2 ^ k : Nat) = q at hp1 Hpw ⊢
          go_wp2
          go_round
          case rel => exact ⟨k + 1, by omega, by go_num, by rw [Hpw.out]⟩
          case measure => simp [intOf]; omega
        · obtain rfl : log = k := by omega
          go_wp2
          go_ret
          exact ⟨rfl, rfl⟩
  · have h' : log < 0 := by omega
    rw [Rt.grp_out (.inl h')]
    go_enter Tryz.func75, Tryz.ntmps75
    go_wp2
    go_ret
    exact ⟨rfl, rfl⟩
end Go.Proofs.YtknefjigdlbacaaGreatDoor
namespace Go.Proofs.YtknefjigdlbacaaGreatDoor
open Go.RowKit Go.Shelf
attribute [local go_sem] Oper.semAt_some
/-- What the iterator wants kept: the cells of its two boxes. -/
def Kp2 (a b : Nat) (W W' : World) : Prop := (∀ v, W.cell? ⟨a, 0, none⟩ = some v → W'.cell? ⟨a, 0, none⟩ = some v) ∧ (∀ v, W.cell? ⟨b, 0, none⟩ = some v → W'.cell? ⟨b, 0, none⟩ = some v)
theorem Kp2.t {a b : Nat} {A B C : World} (h : Kp2 a b A B) (k : Kp2 a b B C) : Kp2 a b A C := ⟨fun v hv => k.1 v (h.1 v hv), fun v hv => k.2 v (h.2 v hv)⟩
theorem Kp2.refl (a b : Nat) (W : World) : Kp2 a b W W := ⟨fun _ h => h, fun _ h => h⟩
theorem Kp2.b {a b : Nat} (W : World) (l : Nat) (o o' : Obj) (h : W.heap[l]? = some o) (hc : o.isCells = false) : Kp2 a b W (W.putObj l o') :=
  ⟨fun _ hv => cell_kept hv (grownBy_putObj' W l o') (fun r e => by cases e; exact ⟨o, h, hc⟩), fun _ hv => cell_kept hv (grownBy_putObj' W l o') (fun r e => by cases e; exact ⟨o, h, hc⟩)⟩
theorem Kp2.below {a b n : Nat} {W W' : World} (h : Below n W W') (ha : a < n) (hb : b < n) : Kp2 a b W W' :=
  ⟨fun _ hv => (h.cell (p := ⟨a, 0, none⟩) ha).trans hv, fun _ hv => (h.cell (p := ⟨b, 0, none⟩) hb).trans hv⟩
theorem Kp2.set {a b c : Nat} (W : World) (u : Value) (ha : a ≠ c) (hb : b ≠ c) : Kp2 a b W (W.setCell ⟨c, 0, none⟩ u) :=
  ⟨fun _ hv => (World.cell?_setCell_other W ⟨c, 0, none⟩ ⟨a, 0, none⟩ u (fun e => ha (by cases e; rfl))).trans hv, fun _ hv => (World.cell?_setCell_other W ⟨c, 0, none⟩ ⟨b, 0, none⟩ u (fun e => hb (by cases e; rfl))).trans hv⟩
theorem grownBy_drew (W : World) : W.grownBy W.drew none := ⟨rfl, rfl, rfl, Nat.le_refl _, fun _ _ _ => rfl⟩
theorem grownBy_drewN (W : World) (n : Nat) : W.grownBy (W.drewN n) none := ⟨rfl, rfl, rfl, Nat.le_refl _, fun _ _ _ => rfl⟩
/-- How a round ends: it goes on, or it says that it wants no more. -/
def Went (a b : Nat) (J Jx : List Nat → World → Prop) (pre : List Nat) (W : World) (t : Bool) (W' : World) : Prop := (t = true ∧ J pre W' ∧ Kp2 a b W W') ∨ (t = false ∧ Jx pre W')
theorem sum_pred (s k : Nat) : s + Rt.tri (k - 1) + k = s + Rt.tri k := by
  cases k with
  | zero => rfl
  | succ k => simp only [Nat.add_sub_cancel, Rt.tri]; omega
set_option maxRecDepth 100000 in
set_option maxHeartbeats 1000000 in
theorem all1_in (n l B1 B2 : Nat) (hn : 1 ≤ n) (log : Int) (h : Nat) (hh : h ≤ 18446744073709551615) (J Jx : List Nat → World → Prop) (W : World) (hJ : AbidesFrom W.heap.size J)
    (hY : ∀ pre (k : Nat) W1, J pre W1 → pre.length < 512 → YieldAt Fence.wide (n - 1) Tryz.prog l #[.int .i64 (k : Int)] W1 fun e W' =>
      (e = .returned (.bool true) ∧ J (pre ++ [k]) W' ∧ Kp2 B1 B2 W1 W') ∨ (e = .returned (.bool false) ∧ Jx (pre ++ [k]) W'))
    (h1 : W.cell? ⟨B1, 0, none⟩ = some (.int .i64 log)) (h2 : W.cell? ⟨B2, 0, none⟩ = some (.int .u64 (h : Int))) (h0 : J [] W) :
    CallsIn Fence.wide n Tryz.prog 149 #[.func (.yield l) #[] #[], .pointer (some ⟨B1, 0, none⟩), .pointer (some ⟨B2, 0, none⟩)] W fun e W' => (∃ v, e = .returned v) ∧
      ((∃ ys, ys = Rt.way (h / 128) (Rt.grp log) ∧ J ys W') ∨ (∃ pre, pre <+: Rt.way (h / 128) (Rt.grp log) ∧ Jx pre W')) := by
  have hf5 : Fence.wide.fn 70 := trivial
  have hf16 : Fence.wide.fn 150 := trivial
  have hmix : Tryz.prog.follows .mixedOrders = true := by kernel_rfl
  have hg := Rt.grp_le log
  unfold Rt.way
  obtain ⟨m, hm⟩ : ∃ m, m = Rt.grp log := ⟨_, rfl⟩
  rw [← hm] at hg ⊢
  have Hm := Lib.hid hm; clear hm
  obtain ⟨s, hs⟩ : ∃ s, s = h / 128 := ⟨_, rfl⟩
  have hsI : (h : Int) / 128 = (s : Int) := by omega
  rw [← hs]
  have hs1 : s ≤ 144115188075855872 := by omega
  have HsI := Lib.hid hsI; clear hsI hs
  refine callsIn_of_wp Tryz.func149 rfl trivial ?_ rfl
  simp only [Tryz.ntmps149, List.size_toArray, List.length_cons, List.length_nil, Nat.reduceAdd, Nat.reduceSub, Array.replicate_succ, Array.replicate_zero, List.push_toArray, List.append_toArray, List.nil_append, List.cons_append]
  gi_wp2_with (first | (gi_at_call 70; refine (callsIn_wide.2 (rtgroups_any _ _)).mono ?_; rintro e w' ⟨rfl, rfl⟩; rw [← Hm.out]) | (gi_at_call 150; refine (callsIn_wide.2 (start_any _ _)).mono ?_; rintro e w' ⟨rfl, rfl⟩; rw [HsI.out]))
  gi_loopw [5, 6, 13] (fun a _ i wr => ∃ k : Nat, k ≤ m ∧ i = .int .u64 (k : Int) ∧ a = .int .u64 ((s + Rt.tri (k - 1) : Nat) : Int) ∧ J (Rt.wayTo s m k) wr ∧ wr.cell? ⟨B1, 0, none⟩ = some (.int .i64 log) ∧ wr.cell? ⟨B2, 0, none⟩ = some (.int .u64 (h : Int)))
    (fun _ _ i _ => m - (intOf i).toNat)
  case atStart => exact ⟨0, by omega, rfl, rfl, h0, h1, h2⟩
  case round =>
    obtain ⟨k, hk, rfl, rfl, hj, c1, c2⟩ := hrel
    by_cases hlt : k < m
    · have hsp := sum_pred s k
      have hgd : Rt.gat s m k = (s + Rt.tri k) % m := rfl
      have htk := Rt.tri_le (i := k) (by omega)
      have hglt := Rt.gat_lt (s := s) (n := m) (i := k) (by omega)
      have hwl := Rt.wayTo_len s m k
      obtain ⟨fn, tmps, assign, body, hy, hR0⟩ := hY _ (Rt.gat s m k) wr hj (by omega)
      have hR := hR0.mono (R' := fun e W' => ∃ t, e = .returned (.bool t) ∧ Went B1 B2 J Jx (Rt.wayTo s m k ++ [Rt.gat s m k]) wr t W') (by
        rintro e W' (⟨rfl, a1, a2⟩ | ⟨rfl, a1⟩)
        · exact ⟨true, rfl, .inl ⟨rfl, a1, a2⟩⟩
        · exact ⟨false, rfl, .inr ⟨rfl, a1⟩⟩)
      clear hR0 hj
      have HY := Lib.hid hY; clear hY
      have HJ := Lib.hid hJ; clear hJ
      have Hwl := Lib.hid hwl; clear hwl
      generalize hat : s + Rt.tri (k - 1) = a0 at hsp ⊢
      generalize hbt : s + Rt.tri k = b0 at hsp hgd
      have hb0 : b0 ≤ 144115188076000000 := by omega
      have e1 : IntKind.u64.wrap ((a0 : Int) + (k : Int)) = (b0 : Int) := by rw [u64_wrap_small (by omega) (by omega)]; omega
      have e2 : wrap64 ((b0 : Int).tmod (m : Int)) = ((Rt.gat s m k : Nat) : Int) := by
        rw [Int.tmod_eq_emod_of_nonneg (by omega), wrap64_small (by omega) (by omega), hgd]; omega
      have E1 := Lib.hid e1
      have E2 := Lib.hid e2
      clear e1 e2 hsp hgd hat
      gi_wp2_with fail
      rw [E1.out, E2.out]
      rw [hy]
      refine ⟨fun _ => hn, hR.mono ?_⟩
      rintro e W3 ⟨t, rfl, hw⟩
      rcases hw with ⟨rfl, hj3, hk3⟩ | ⟨rfl, hx3⟩
      all_goals gi_wp2
      · go_roundw
        case rel => exact ⟨k + 1, by omega, by go_num, by rw [← hbt]; rfl, by rw [Rt.wayTo_snoc]; exact hj3, hk3.1 _ c1, hk3.2 _ c2⟩
        case measure => simp [intOf]; omega
      · refine bodyPost_ret (results_none rfl _ _ _) rfl ?_
        exact ⟨⟨_, rfl⟩, .inr ⟨_, by rw [← Rt.wayTo_snoc]; exact Rt.wayTo_pre (by omega), hx3⟩⟩
    · obtain rfl : k = m := by omega
      gi_wp2
      go_end0
      exact ⟨⟨_, rfl⟩, .inl ⟨_, rfl, hj⟩⟩
set_option maxHeartbeats 1000000 in
/-- route.All: both arguments are boxed; the function value holds the boxes. -/
theorem all_call (n : Nat) (h log : Int) (w : World) :
    CallsIn Fence.wide n Tryz.prog 122 #[.int .u64 h, .int .i64 log] w fun e w' => e = .returned (.func (.func 149) #[] #[.pointer (some ⟨w.heap.size + 1, 0, none⟩), .pointer (some ⟨w.heap.size, 0, none⟩)]) ∧ (w.alloc (.cells #[.int .u64 h] 22)).alloc (.cells #[.int .i64 log] 3) = w' := by
  refine callsIn_of_wp Tryz.func122 rfl trivial ?_ rfl
  simp only [Tryz.ntmps122, List.size_toArray, List.length_cons, List.length_nil, Nat.reduceAdd, Nat.reduceSub, Array.replicate_succ, Array.replicate_zero, List.push_toArray, List.append_toArray, List.nil_append, List.cons_append]
  gi_wp2
  go_ret
  exact ⟨rfl, rfl⟩
/-- The iterator's contract. -/
theorem all_stops (n : Nat) (hn : 1 ≤ n) (log : Int) (h : Nat) (hh : h ≤ 18446744073709551615) (B1 B2 : Nat) (w : World) (l1 : B1 < w.heap.size) (l2 : B2 < w.heap.size) (h1 : w.cell? ⟨B1, 0, none⟩ = some (.int .i64 log)) (h2 : w.cell? ⟨B2, 0, none⟩ = some (.int .u64 (h : Int))) :
    SeqStopsK Fence.wide n Tryz.prog 149 #[.pointer (some ⟨B1, 0, none⟩), .pointer (some ⟨B2, 0, none⟩)] (fun k : Nat => #[Value.int .i64 (k : Int)]) (Kp2 B1 B2) (fun ys => ys = Rt.way (h / 128) (Rt.grp log)) (fun pre => pre <+: Rt.way (h / 128) (Rt.grp log)) 512 w := fun l J Jx W hW hJ _ hY h0 =>
  all1_in n l B1 B2 hn log h hh J Jx W hJ hY ((hW.cell (p := ⟨B1, 0, none⟩) l1).trans h1) ((hW.cell (p := ⟨B2, 0, none⟩) l2).trans h2) h0
end Go.Proofs.YtknefjigdlbacaaGreatDoor
