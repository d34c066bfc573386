/-
  Several texts in one: The walks of ctrl.Class, Next, Claim, Seal, Claimed, and of the document's own; The walks of ctrl.Next and ctrl.Claimed, and of the document's own; The walks of Groups and Start, the program's and the document's, and of the comparison of two lists of numbers. By an AI agent.
-/
import Derived.Test.YtknefjigdlbacaaGreatDoorSkFAD
import Derived.Test.YtknefjigdlbacaaGreatDoorSkFAO
import Derived.Test.YtknefjigdlbacaaGreatDoorSkFAI
import Derived.WalkKit
import Derived.WalkSpells
import Derived.WalkLawsBesides
import Derived.WalkMore
import Derived.Below
import Derived.Lib.Hide
import Derived.IntWalk
import Derived.OwnWalk
import Derived.Maps.AppendAt
import Derived.Laws.OwnMore
import Derived.RangeFuncBox
namespace Go.Proofs.YtknefjigdlbacaaGreatDoor
open Go.RowKit
set_option maxHeartbeats 1000000 in
theorem isClaim_yes (i : Int) (w : World) (h0 : 128 ≤ i) (h1 : i ≤ 255) : Calls Tryz.prog 125 #[.int .i64 i] w (Same (.bool true) w) := by
  go_enter Tryz.func125, Tryz.ntmps125
  go_wp2
  go_ret
  exact ⟨rfl, rfl⟩
set_option maxHeartbeats 1000000 in
theorem isClaim_no (i : Int) (w : World) (h : i < 128 ∨ 255 < i) : Calls Tryz.prog 125 #[.int .i64 i] w (Same (.bool false) w) := by
  rcases h with h | h
  · have h' : ¬ 128 ≤ i := by omega
    go_enter Tryz.func125, Tryz.ntmps125
    go_wp2
    go_ret
    exact ⟨rfl, rfl⟩
  · have h' : 128 ≤ i := by omega
    have h'' : ¬ i ≤ 255 := by omega
    go_enter Tryz.func125, Tryz.ntmps125
    go_wp2
    go_ret
    exact ⟨rfl, rfl⟩
theorem isClaim_any (i : Int) (w : World) : Calls Tryz.prog 125 #[.int .i64 i] w (Same (.bool (decide (128 ≤ i ∧ i ≤ 255))) w) := by
  by_cases h : 128 ≤ i ∧ i ≤ 255
  · rw [decide_eq_true h]; exact isClaim_yes i w h.1 h.2
  · rw [decide_eq_false h]; exact isClaim_no i w (by omega)
set_option maxHeartbeats 1000000 in
/-- ctrl.Class. -/
theorem class_any (x i c : Int) (w : World) (hx0 : 0 ≤ x) (hx1 : x ≤ 18446744073709551615) : Calls Tryz.prog 134 #[.int .u64 x, .int .i64 i, .int .i64 c] w (Same (.int .i64 (Ct.cls x i c)) w) := by
  have HB := Lib.hid (fun w => byte_any x i w hx0 hx1)
  by_cases h0 : Ln.byt x i = 0
  · have e0 : (Ln.byt x i == 0) = true := by simp [h0]
    have E := Lib.hid (Ct.cls_free c h0); clear h0
    generalize Ln.byt x i = b at HB e0
    go_enter Tryz.func134, Tryz.ntmps134
    go_wp2_with fail
    with_reducible refine (HB.out _).mono ?_
    rintro e w' ⟨rfl, rfl⟩
    go_wp2
    go_ret
    exact ⟨ret_int E.out.symm, rfl⟩
  · by_cases h1 : Ln.byt x i = 1
    · have e0 : (Ln.byt x i == 0) = false := by simp [h0]
      have e1 : (Ln.byt x i == 1) = true := by simp [h1]
      have E := Lib.hid (Ct.cls_shut c h1); clear h0 h1
      generalize Ln.byt x i = b at HB e0 e1
      go_enter Tryz.func134, Tryz.ntmps134
      go_wp2_with fail
      with_reducible refine (HB.out _).mono ?_
      rintro e w' ⟨rfl, rfl⟩
      go_wp2
      go_ret
      exact ⟨ret_int E.out.symm, rfl⟩
    · have e0 : (Ln.byt x i == 0) = false := by simp [h0]
      have e1 : (Ln.byt x i == 1) = false := by simp [h1]
      by_cases h2 : Ln.byt x i = c
      · have e2 : (Ln.byt x i == c) = true := by simp [h2]
        by_cases h3 : 128 ≤ c ∧ c ≤ 255
        · have E := Lib.hid (Ct.cls_own h0 h1 h2 h3.1 h3.2); clear h0 h1 h2
          have HC := Lib.hid (fun w => isClaim_yes c w h3.1 h3.2); clear h3
          generalize Ln.byt x i = b at HB e0 e1 e2
          go_enter Tryz.func134, Tryz.ntmps134
          go_wp2_with fail
          with_reducible refine (HB.out _).mono ?_
          rintro e w' ⟨rfl, rfl⟩
          go_wp2_with fail
          with_reducible refine (HC.out _).mono ?_
          rintro e w' ⟨rfl, rfl⟩
          go_wp2
          go_ret
          exact ⟨ret_int E.out.symm, rfl⟩
        · have E := Lib.hid (Ct.cls_other h0 h1 (fun q => h3 q.2)); clear h0 h1 h2
          have HC := Lib.hid (fun w => isClaim_no c w (by omega)); clear h3
          generalize Ln.byt x i = b at HB e0 e1 e2
          go_enter Tryz.func134, Tryz.ntmps134
          go_wp2_with fail
          with_reducible refine (HB.out _).mono ?_
          rintro e w' ⟨rfl, rfl⟩
          go_wp2_with fail
          with_reducible refine (HC.out _).mono ?_
          rintro e w' ⟨rfl, rfl⟩
          go_wp2
          go_ret
          exact ⟨ret_int E.out.symm, rfl⟩
      · have e2 : (Ln.byt x i == c) = false := by simp [h2]
        have E := Lib.hid (Ct.cls_other h0 h1 (fun q => h2 q.1)); clear h0 h1 h2
        generalize Ln.byt x i = b at HB e0 e1 e2
        go_enter Tryz.func134, Tryz.ntmps134
        go_wp2_with fail
        with_reducible refine (HB.out _).mono ?_
        rintro e w' ⟨rfl, rfl⟩
        go_wp2
        go_ret
        exact ⟨ret_int E.out.symm, rfl⟩
set_option maxHeartbeats 1000000 in
/-- The document's Class. -/
theorem rclass_any (x i c : Int) (w : World) (hx0 : 0 ≤ x) (hx1 : x ≤ 18446744073709551615) : Calls Tryz.prog 102 #[.int .u64 x, .int .i64 i, .int .i64 c] w (Same (.int .i64 (Ct.cls x i c)) w) := by
  have HB := Lib.hid (fun w => rbyte_any x i w hx0 hx1)
  have hb := Ln.byt_bd x i
  by_cases h0 : Ln.byt x i = 0
  · have e0 : (Ln.byt x i == 0) = true := by simp [h0]
    have E := Lib.hid (Ct.cls_free c h0); clear h0 hb
    generalize Ln.byt x i = b at HB e0
    go_enter Tryz.func102, Tryz.ntmps102
    go_wp2_with fail
    with_reducible refine (HB.out _).mono ?_
    rintro e w' ⟨rfl, rfl⟩
    go_wp2
    go_ret
    exact ⟨ret_int E.out.symm, rfl⟩
  · by_cases h1 : Ln.byt x i = 1
    · have e0 : (Ln.byt x i == 0) = false := by simp [h0]
      have e1 : (Ln.byt x i == 1) = true := by simp [h1]
      have E := Lib.hid (Ct.cls_shut c h1); clear h0 h1 hb
      generalize Ln.byt x i = b at HB e0 e1
      go_enter Tryz.func102, Tryz.ntmps102
      go_wp2_with fail
      with_reducible refine (HB.out _).mono ?_
      rintro e w' ⟨rfl, rfl⟩
      go_wp2
      go_ret
      exact ⟨ret_int E.out.symm, rfl⟩
    · have e0 : (Ln.byt x i == 0) = false := by simp [h0]
      have e1 : (Ln.byt x i == 1) = false := by simp [h1]
      by_cases h3 : 128 ≤ Ln.byt x i
      · by_cases h2 : Ln.byt x i = c
        · have e2 : (Ln.byt x i == c) = true := by simp [h2]
          have E := Lib.hid (Ct.cls_own h0 h1 h2 (by omega) (by omega)); clear h0 h1 h2 hb
          generalize Ln.byt x i = b at HB e0 e1 e2 h3
          go_enter Tryz.func102, Tryz.ntmps102
          go_wp2_with fail
          with_reducible refine (HB.out _).mono ?_
          rintro e w' ⟨rfl, rfl⟩
          go_wp2
          go_ret
          exact ⟨ret_int E.out.symm, rfl⟩
        · have e2 : (Ln.byt x i == c) = false := by simp [h2]
          have E := Lib.hid (Ct.cls_other h0 h1 (fun q => h2 q.1)); clear h0 h1 h2 hb
          generalize Ln.byt x i = b at HB e0 e1 e2 h3
          go_enter Tryz.func102, Tryz.ntmps102
          go_wp2_with fail
          with_reducible refine (HB.out _).mono ?_
          rintro e w' ⟨rfl, rfl⟩
          go_wp2
          go_ret
          exact ⟨ret_int E.out.symm, rfl⟩
      · have E := Lib.hid (Ct.cls_other (c := c) h0 h1 (by omega)); clear h0 h1 hb
        generalize Ln.byt x i = b at HB e0 e1 h3
        go_enter Tryz.func102, Tryz.ntmps102
        go_wp2_with fail
        with_reducible refine (HB.out _).mono ?_
        rintro e w' ⟨rfl, rfl⟩
        go_wp2
        go_ret
        exact ⟨ret_int E.out.symm, rfl⟩
set_option maxHeartbeats 1000000 in
/-- ctrl.Claim. -/
theorem cclaim_any (x i c : Int) (w : World) (hx0 : 0 ≤ x) (hx1 : x ≤ 18446744073709551615) : Calls Tryz.prog 80 #[.int .u64 x, .int .i64 i, .int .i64 c] w (Same (.int .u64 (Ct.clm x i c)) w) := by
  have HB := Lib.hid (fun w => byte_any x i w hx0 hx1)
  have HW := Lib.hid (fun w => with_any x i c w hx0 hx1)
  by_cases h0 : Ln.byt x i = 0
  · have e0 : (Ln.byt x i != 0) = false := by simp [h0]
    by_cases h3 : 128 ≤ c ∧ c ≤ 255
    · have E := Lib.hid (Ct.clm_yes h0 h3.1 h3.2); clear h0
      have HC := Lib.hid (fun w => isClaim_yes c w h3.1 h3.2); clear h3
      generalize Ln.byt x i = b at HB e0
      go_enter Tryz.func80, Tryz.ntmps80
      go_wp2_with fail
      with_reducible refine (HB.out _).mono ?_
      rintro e w' ⟨rfl, rfl⟩
      go_wp2_with fail
      with_reducible refine (HC.out _).mono ?_
      rintro e w' ⟨rfl, rfl⟩
      go_wp2_with fail
      with_reducible refine (HW.out _).mono ?_
      rintro e w' ⟨rfl, rfl⟩
      go_wp2
      go_ret
      exact ⟨ret_int E.out.symm, rfl⟩
    · have E := Lib.hid (Ct.clm_no (x := x) (i := i) (c := c) (fun q => h3 q.2)); clear h0
      have HC := Lib.hid (fun w => isClaim_no c w (by omega)); clear h3
      generalize Ln.byt x i = b at HB e0
      go_enter Tryz.func80, Tryz.ntmps80
      go_wp2_with fail
      with_reducible refine (HB.out _).mono ?_
      rintro e w' ⟨rfl, rfl⟩
      go_wp2_with fail
      with_reducible refine (HC.out _).mono ?_
      rintro e w' ⟨rfl, rfl⟩
      go_wp2
      go_ret
      exact ⟨ret_int E.out.symm, rfl⟩
  · have e0 : (Ln.byt x i != 0) = true := by simp [h0]
    have E := Lib.hid (Ct.clm_no (x := x) (i := i) (c := c) (fun q => h0 q.1)); clear h0
    generalize Ln.byt x i = b at HB e0
    go_enter Tryz.func80, Tryz.ntmps80
    go_wp2_with fail
    with_reducible refine (HB.out _).mono ?_
    rintro e w' ⟨rfl, rfl⟩
    go_wp2
    go_ret
    exact ⟨ret_int E.out.symm, rfl⟩
set_option maxHeartbeats 1000000 in
/-- The document's Claim. -/
theorem rcclaim_any (x i c : Int) (w : World) (hx0 : 0 ≤ x) (hx1 : x ≤ 18446744073709551615) : Calls Tryz.prog 51 #[.int .u64 x, .int .i64 i, .int .i64 c] w (Gives (.int .u64 (Ct.clm x i c)) w) := by
  have HB := Lib.hid (fun w => rbyte_any x i w hx0 hx1)
  have HW := Lib.hid (fun w => rwith_any x i c w hx0 hx1)
  by_cases c0 : c < 128
  · have E := Lib.hid (Ct.clm_no (x := x) (i := i) (c := c) (by omega))
    go_enter Tryz.func51, Tryz.ntmps51
    go_wp2
    go_ret
    exact ⟨ret_int E.out.symm, Below.refl _ _⟩
  · by_cases c1 : 255 < c
    · have E := Lib.hid (Ct.clm_no (x := x) (i := i) (c := c) (by omega))
      go_enter Tryz.func51, Tryz.ntmps51
      go_wp2
      go_ret
      exact ⟨ret_int E.out.symm, Below.refl _ _⟩
    · by_cases h0 : Ln.byt x i = 0
      · have e0 : (Ln.byt x i != 0) = false := by simp [h0]
        have E := Lib.hid (Ct.clm_yes (c := c) h0 (by omega) (by omega)); clear h0
        generalize Ln.byt x i = b at HB e0
        go_enter Tryz.func51, Tryz.ntmps51
        go_wp2_with fail
        with_reducible refine (HB.out _).mono ?_
        rintro e w' ⟨rfl, rfl⟩
        go_wp2_with fail
        with_reducible refine (HW.out _).mono ?_
        rintro e w' ⟨rfl, hb⟩
        go_wp2
        go_ret
        exact ⟨ret_int E.out.symm, hb⟩
      · have e0 : (Ln.byt x i != 0) = true := by simp [h0]
        have E := Lib.hid (Ct.clm_no (x := x) (i := i) (c := c) (fun q => h0 q.1)); clear h0
        generalize Ln.byt x i = b at HB e0
        go_enter Tryz.func51, Tryz.ntmps51
        go_wp2_with fail
        with_reducible refine (HB.out _).mono ?_
        rintro e w' ⟨rfl, rfl⟩
        go_wp2
        go_ret
        exact ⟨ret_int E.out.symm, Below.refl _ _⟩
end Go.Proofs.YtknefjigdlbacaaGreatDoor
namespace Go.Proofs.YtknefjigdlbacaaGreatDoor
open Go.RowKit
/-- A place and its class. -/
def ctwo (i c : Int) : Value := .tuple #[.int .i64 i, .int .i64 c]
theorem ctwo_eq {a b c d : Int} (h : a = c) (k : b = d) : Ending.returned (.tuple #[.int .i64 a, .int .i64 b]) = .returned (ctwo c d) := by rw [h, k]; rfl
set_option maxRecDepth 100000 in
set_option maxHeartbeats 2000000 in
/-- ctrl.Next, from the place m on. -/
theorem ctnext_from (x a c : Int) (m : Nat) (w : World) (hx0 : 0 ≤ x) (hx1 : x ≤ 18446744073709551615) (ha : (if a < 0 then 0 else a) = (m : Int)) : Calls Tryz.prog 97 #[.int .u64 x, .int .i64 a, .int .i64 c] w (Same (ctwo (Ct.nxp x a c) (Ct.nxc x a c)) w) := by
  have hle : a ≤ (m : Int) := by split at ha <;> omega
  have hno : Ct.NoN x a c m := Ct.noN_zero (by split at ha <;> omega)
  have Hno := Lib.hid hno; clear hno
  have Hle := Lib.hid hle; clear hle
  go_enter Tryz.func97, Tryz.ntmps97
  go_wp2
  go_step3
  go_wp2
  go_step3
  go_wp2
  clear ha
  go_loop [8, 9] (fun i _ => ∃ k : Nat, i = .int .i64 k ∧ Hid (Ct.NoN x a c k) ∧ Hid (a ≤ (k : Int))) (fun i _ => 8 - (intOf i).toNat)
  case atStart => exact ⟨m, rfl, Hno, Hle⟩
  case round =>
    obtain ⟨k, rfl, hn, hk⟩ := hrel
    by_cases hlt : k < 8
    · by_cases h0 : Ct.cls x k c = 0
      · have e0 : (Ct.cls x k c == 0) = true := by simp [h0]
        have H0 := Lib.hid h0; clear h0
        go_wp2_with fail
        with_reducible refine (class_any _ _ _ _ hx0 hx1).mono ?_
        rintro e w' ⟨rfl, rfl⟩
        go_wp2
        go_round
        case rel => exact ⟨k + 1, by go_num, Lib.hid (Ct.noN_succ hn.out (.inr H0.out)), Lib.hid (by have := hk.out; omega)⟩
        case measure => simp [intOf]; omega
      · have e0 : (Ct.cls x k c == 0) = false := by simp [h0]
        have H0 := Lib.hid h0; clear h0
        go_wp2_with fail
        with_reducible refine (class_any _ _ _ _ hx0 hx1).mono ?_
        rintro e w' ⟨rfl, rfl⟩
        go_wp2
        try rw [Exit.noGoto_ret]
        go_ret2
        exact ⟨ctwo_eq (Ct.nxp_here hlt hn.out hk.out H0.out) (Ct.nxc_here hlt hn.out hk.out H0.out), rfl⟩
    · have h8 : ¬ (k : Int) < 8 := by omega
      go_wp2
      try rw [Exit.noGoto_ret]
      go_ret2
      exact ⟨ctwo_eq (Ct.nxp_none (by omega) hn.out) (Ct.nxc_none (by omega) hn.out), rfl⟩
theorem ctnext_any (x a c : Int) (w : World) (hx0 : 0 ≤ x) (hx1 : x ≤ 18446744073709551615) : Calls Tryz.prog 97 #[.int .u64 x, .int .i64 a, .int .i64 c] w (Same (ctwo (Ct.nxp x a c) (Ct.nxc x a c)) w) :=
  ctnext_from x a c (if a < 0 then 0 else a).toNat w hx0 hx1 (by split <;> omega)
set_option maxRecDepth 100000 in
set_option maxHeartbeats 2000000 in
/-- The document's Next. -/
theorem rctnext_any (x a c : Int) (w : World) (hx0 : 0 ≤ x) (hx1 : x ≤ 18446744073709551615) : Calls Tryz.prog 48 #[.int .u64 x, .int .i64 a, .int .i64 c] w (Same (ctwo (Ct.nxp x a c) (Ct.nxc x a c)) w) := by
  go_enter Tryz.func48, Tryz.ntmps48
  go_wp2
  go_loop [8] (fun i => ∃ k : Nat, k ≤ 8 ∧ i = .int .i64 k ∧ Hid (Ct.NoN x a c k)) (fun i => 8 - (intOf i).toNat)
  case atStart => exact ⟨0, by omega, rfl, Lib.hid (Ct.noN_zero (.inr rfl))⟩
  case round =>
    obtain ⟨k, hk8, rfl, hn⟩ := hrel
    by_cases hlt : k < 8
    · by_cases ha : a ≤ (k : Int)
      · by_cases h0 : Ct.cls x k c = 0
        · have e0 : (Ct.cls x k c != 0) = false := by simp [h0]
          have H0 := Lib.hid h0; clear h0
          go_wp2_with fail
          with_reducible refine (rclass_any _ _ _ _ hx0 hx1).mono ?_
          rintro e w' ⟨rfl, rfl⟩
          go_wp2
          go_round
          case rel => exact ⟨k + 1, by omega, by go_num, Lib.hid (Ct.noN_succ hn.out (.inr H0.out))⟩
          case measure => simp [intOf]; omega
        · have e0 : (Ct.cls x k c != 0) = true := by simp [h0]
          have H0 := Lib.hid h0; clear h0
          go_wp2_with fail
          with_reducible refine (rclass_any _ _ _ _ hx0 hx1).mono ?_
          rintro e w' ⟨rfl, rfl⟩
          go_wp2_with fail
          with_reducible refine (rclass_any _ _ _ _ hx0 hx1).mono ?_
          rintro e w' ⟨rfl, rfl⟩
          go_wp2
          go_ret2
          exact ⟨ctwo_eq (Ct.nxp_here hlt hn.out ha H0.out) (Ct.nxc_here hlt hn.out ha H0.out), rfl⟩
      · go_wp2
        go_round
        case rel => exact ⟨k + 1, by omega, by go_num, Lib.hid (Ct.noN_succ hn.out (.inl (by omega)))⟩
        case measure => simp [intOf]; omega
    · obtain rfl : k = 8 := by omega
      go_wp2
      go_ret2
      exact ⟨ctwo_eq (Ct.nxp_none (Nat.le_refl _) hn.out) (Ct.nxc_none (Nat.le_refl _) hn.out), rfl⟩
end Go.Proofs.YtknefjigdlbacaaGreatDoor
namespace Go.Proofs.YtknefjigdlbacaaGreatDoor
open Go.RowKit
set_option maxHeartbeats 2000000 in
/-- route.Groups. -/
theorem rtgroups_any (log : Int) (w : World) : Calls Tryz.prog 70 #[.int .i64 log] w (Same (.int .i64 (Rt.grp log : Nat)) w) := by
  by_cases h : 0 ≤ log
  · have h' : ¬ log < 0 := by omega
    by_cases h2 : 9 < log
    · rw [Rt.grp_out (.inr h2)]
      go_enter Tryz.func70, Tryz.ntmps70
      go_wp2
      go_ret
      exact ⟨rfl, rfl⟩
    · rcases Rt.ten h (by omega) with rfl | rfl | rfl | rfl | rfl | rfl | rfl | rfl | rfl | rfl
      all_goals
        go_enter Tryz.func70, Tryz.ntmps70
        go_wp2
        go_ret
        exact ⟨rfl, rfl⟩
  · have h' : log < 0 := by omega
    rw [Rt.grp_out (.inl h')]
    go_enter Tryz.func70, Tryz.ntmps70
    go_wp2
    go_ret
    exact ⟨rfl, rfl⟩
set_option maxRecDepth 100000 in
set_option maxHeartbeats 2000000 in
/-- The document's Groups: doublings. -/
theorem rtrgroups_any (log : Int) (w : World) : Calls Tryz.prog 75 #[.int .i64 log] w (Same (.int .i64 (Rt.grp log : Nat)) w) := by
  by_cases h : 0 ≤ log
  · have h' : ¬ log < 0 := by omega
    by_cases h2 : 9 < log
    · rw [Rt.grp_out (.inr h2)]
      go_enter Tryz.func75, Tryz.ntmps75
      go_wp2
      go_ret
      exact ⟨rfl, rfl⟩
    · rw [Rt.grp_in h (by omega)]
      go_enter Tryz.func75, Tryz.ntmps75
      go_wp2
      go_loop [3, 4] (fun u c => ∃ k : Nat, (k : Int) ≤ log ∧ c = .int .i64 k ∧ u = .int .i64 ((2 ^ k : Nat) : Int)) (fun _ c => (log - intOf c).toNat)
      case atStart => exact ⟨0, by omega, rfl, rfl⟩
      case round =>
        obtain ⟨k, hk, rfl, rfl⟩ := hrel
        have hp : 2 ^ k ≤ 2 ^ 9 := Nat.pow_le_pow_right (by omega) (by omega)
        have hp1 : (2 ^ k : Nat) ≤ 512 := hp
        clear hp
        by_cases hlt : (k : Int) < log
        · have hpw : ((2 ^ (k + 1) : Nat) : Int) = 2 * ((2 ^ k : Nat) : Int) := by rw [Nat.pow_succ]; omega
          have Hpw := Lib.hid hpw; clear hpw
          generalize hq : (2 ^ k : Nat) = q at hp1 Hpw ⊢
          go_wp2
          go_round
          case rel => exact ⟨k + 1, by omega, by go_num, by rw [Hpw.out]⟩
          case measure => simp [intOf]; omega
        · obtain rfl : log = k := by omega
          go_wp2
          go_ret
          exact ⟨rfl, rfl⟩
  · have h' : log < 0 := by omega
    rw [Rt.grp_out (.inl h')]
    go_enter Tryz.func75, Tryz.ntmps75
    go_wp2
    go_ret
    exact ⟨rfl, rfl⟩
end Go.Proofs.YtknefjigdlbacaaGreatDoor
