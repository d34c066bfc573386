/-
  The walks of ctrl.Class, Next, Claim, Seal, Claimed, and of the document's own. By an AI agent.
-/
import Derived.Test.YtmdaekiogcecmaaCtrlMath
import Derived.Test.YtmdaekiogcecmaaLaneLoops
namespace Go.Proofs.Ytmdaekiogcecmaa
open Go.RowKit
/-- It returns v, and the world is the same. -/
def Same (v : Value) (w : World) (e : Ending) (w' : World) : Prop := e = .returned v ∧ w = w'
/-- It returns v, and what was there lies as it lay. -/
def Gives (v : Value) (w : World) (e : Ending) (w' : World) : Prop := e = .returned v ∧ Below w.heap.size w w'
set_option maxHeartbeats 1000000 in
theorem isClaim_yes (i : Int) (w : World) (h0 : 128 ≤ i) (h1 : i ≤ 255) : Calls Try.prog 20 #[.int .i64 i] w (Same (.bool true) w) := by
  go_enter Try.func20, Try.ntmps20
  go_wp2
  go_ret
  exact ⟨rfl, rfl⟩
set_option maxHeartbeats 1000000 in
theorem isClaim_no (i : Int) (w : World) (h : i < 128 ∨ 255 < i) : Calls Try.prog 20 #[.int .i64 i] w (Same (.bool false) w) := by
  rcases h with h | h
  · have h' : ¬ 128 ≤ i := by omega
    go_enter Try.func20, Try.ntmps20
    go_wp2
    go_ret
    exact ⟨rfl, rfl⟩
  · have h' : 128 ≤ i := by omega
    have h'' : ¬ i ≤ 255 := by omega
    go_enter Try.func20, Try.ntmps20
    go_wp2
    go_ret
    exact ⟨rfl, rfl⟩
theorem isClaim_any (i : Int) (w : World) : Calls Try.prog 20 #[.int .i64 i] w (Same (.bool (decide (128 ≤ i ∧ i ≤ 255))) w) := by
  by_cases h : 128 ≤ i ∧ i ≤ 255
  · rw [decide_eq_true h]; exact isClaim_yes i w h.1 h.2
  · rw [decide_eq_false h]; exact isClaim_no i w (by omega)
set_option maxHeartbeats 1000000 in
/-- ctrl.Class. -/
theorem class_any (x i c : Int) (w : World) (hx0 : 0 ≤ x) (hx1 : x ≤ 18446744073709551615) : Calls Try.prog 8 #[.int .u64 x, .int .i64 i, .int .i64 c] w (Same (.int .i64 (Ct.cls x i c)) w) := by
  have HB := Lib.hid (fun w => byte_any x i w hx0 hx1)
  by_cases h0 : Ln.byt x i = 0
  · have e0 : (Ln.byt x i == 0) = true := by simp [h0]
    have E := Lib.hid (Ct.cls_free c h0); clear h0
    generalize Ln.byt x i = b at HB e0
    go_enter Try.func8, Try.ntmps8
    go_wp2_with fail
    with_reducible refine (HB.out _).mono ?_
    rintro e w' ⟨rfl, rfl⟩
    go_wp2
    go_ret
    exact ⟨ret_int E.out.symm, rfl⟩
  · by_cases h1 : Ln.byt x i = 1
    · have e0 : (Ln.byt x i == 0) = false := by simp [h0]
      have e1 : (Ln.byt x i == 1) = true := by simp [h1]
      have E := Lib.hid (Ct.cls_shut c h1); clear h0 h1
      generalize Ln.byt x i = b at HB e0 e1
      go_enter Try.func8, Try.ntmps8
      go_wp2_with fail
      with_reducible refine (HB.out _).mono ?_
      rintro e w' ⟨rfl, rfl⟩
      go_wp2
      go_ret
      exact ⟨ret_int E.out.symm, rfl⟩
    · have e0 : (Ln.byt x i == 0) = false := by simp [h0]
      have e1 : (Ln.byt x i == 1) = false := by simp [h1]
      by_cases h2 : Ln.byt x i = c
      · have e2 : (Ln.byt x i == c) = true := by simp [h2]
        by_cases h3 : 128 ≤ c ∧ c ≤ 255
        · have E := Lib.hid (Ct.cls_own h0 h1 h2 h3.1 h3.2); clear h0 h1 h2
          have HC := Lib.hid (fun w => isClaim_yes c w h3.1 h3.2); clear h3
          generalize Ln.byt x i = b at HB e0 e1 e2
          go_enter Try.func8, Try.ntmps8
          go_wp2_with fail
          with_reducible refine (HB.out _).mono ?_
          rintro e w' ⟨rfl, rfl⟩
          go_wp2_with fail
          with_reducible refine (HC.out _).mono ?_
          rintro e w' ⟨rfl, rfl⟩
          go_wp2
          go_ret
          exact ⟨ret_int E.out.symm, rfl⟩
        · have E := Lib.hid (Ct.cls_other h0 h1 (fun q => h3 q.2)); clear h0 h1 h2
          have HC := Lib.hid (fun w => isClaim_no c w (by omega)); clear h3
          generalize Ln.byt x i = b at HB e0 e1 e2
          go_enter Try.func8, Try.ntmps8
          go_wp2_with fail
          with_reducible refine (HB.out _).mono ?_
          rintro e w' ⟨rfl, rfl⟩
          go_wp2_with fail
          with_reducible refine (HC.out _).mono ?_
          rintro e w' ⟨rfl, rfl⟩
          go_wp2
          go_ret
          exact ⟨ret_int E.out.symm, rfl⟩
      · have e2 : (Ln.byt x i == c) = false := by simp [h2]
        have E := Lib.hid (Ct.cls_other h0 h1 (fun q => h2 q.1)); clear h0 h1 h2
        generalize Ln.byt x i = b at HB e0 e1 e2
        go_enter Try.func8, Try.ntmps8
        go_wp2_with fail
        with_reducible refine (HB.out _).mono ?_
        rintro e w' ⟨rfl, rfl⟩
        go_wp2
        go_ret
        exact ⟨ret_int E.out.symm, rfl⟩
set_option maxHeartbeats 1000000 in
/-- The document's Class. -/
theorem rclass_any (x i c : Int) (w : World) (hx0 : 0 ≤ x) (hx1 : x ≤ 18446744073709551615) : Calls Try.prog 9 #[.int .u64 x, .int .i64 i, .int .i64 c] w (Same (.int .i64 (Ct.cls x i c)) w) := by
  have HB := Lib.hid (fun w => rbyte_any x i w hx0 hx1)
  have hb := Ln.byt_bd x i
  by_cases h0 : Ln.byt x i = 0
  · have e0 : (Ln.byt x i == 0) = true := by simp [h0]
    have E := Lib.hid (Ct.cls_free c h0); clear h0 hb
    generalize Ln.byt x i = b at HB e0
    go_enter Try.func9, Try.ntmps9
    go_wp2_with fail
    with_reducible refine (HB.out _).mono ?_
    rintro e w' ⟨rfl, rfl⟩
    go_wp2
    go_ret
    exact ⟨ret_int E.out.symm, rfl⟩
  · by_cases h1 : Ln.byt x i = 1
    · have e0 : (Ln.byt x i == 0) = false := by simp [h0]
      have e1 : (Ln.byt x i == 1) = true := by simp [h1]
      have E := Lib.hid (Ct.cls_shut c h1); clear h0 h1 hb
      generalize Ln.byt x i = b at HB e0 e1
      go_enter Try.func9, Try.ntmps9
      go_wp2_with fail
      with_reducible refine (HB.out _).mono ?_
      rintro e w' ⟨rfl, rfl⟩
      go_wp2
      go_ret
      exact ⟨ret_int E.out.symm, rfl⟩
    · have e0 : (Ln.byt x i == 0) = false := by simp [h0]
      have e1 : (Ln.byt x i == 1) = false := by simp [h1]
      by_cases h3 : 128 ≤ Ln.byt x i
      · by_cases h2 : Ln.byt x i = c
        · have e2 : (Ln.byt x i == c) = true := by simp [h2]
          have E := Lib.hid (Ct.cls_own h0 h1 h2 (by omega) (by omega)); clear h0 h1 h2 hb
          generalize Ln.byt x i = b at HB e0 e1 e2 h3
          go_enter Try.func9, Try.ntmps9
          go_wp2_with fail
          with_reducible refine (HB.out _).mono ?_
          rintro e w' ⟨rfl, rfl⟩
          go_wp2
          go_ret
          exact ⟨ret_int E.out.symm, rfl⟩
        · have e2 : (Ln.byt x i == c) = false := by simp [h2]
          have E := Lib.hid (Ct.cls_other h0 h1 (fun q => h2 q.1)); clear h0 h1 h2 hb
          generalize Ln.byt x i = b at HB e0 e1 e2 h3
          go_enter Try.func9, Try.ntmps9
          go_wp2_with fail
          with_reducible refine (HB.out _).mono ?_
          rintro e w' ⟨rfl, rfl⟩
          go_wp2
          go_ret
          exact ⟨ret_int E.out.symm, rfl⟩
      · have E := Lib.hid (Ct.cls_other (c := c) h0 h1 (by omega)); clear h0 h1 hb
        generalize Ln.byt x i = b at HB e0 e1 h3
        go_enter Try.func9, Try.ntmps9
        go_wp2_with fail
        with_reducible refine (HB.out _).mono ?_
        rintro e w' ⟨rfl, rfl⟩
        go_wp2
        go_ret
        exact ⟨ret_int E.out.symm, rfl⟩
set_option maxHeartbeats 1000000 in
/-- ctrl.Claim. -/
theorem claim_any (x i c : Int) (w : World) (hx0 : 0 ≤ x) (hx1 : x ≤ 18446744073709551615) : Calls Try.prog 11 #[.int .u64 x, .int .i64 i, .int .i64 c] w (Same (.int .u64 (Ct.clm x i c)) w) := by
  have HB := Lib.hid (fun w => byte_any x i w hx0 hx1)
  have HW := Lib.hid (fun w => with_any x i c w hx0 hx1)
  by_cases h0 : Ln.byt x i = 0
  · have e0 : (Ln.byt x i != 0) = false := by simp [h0]
    by_cases h3 : 128 ≤ c ∧ c ≤ 255
    · have E := Lib.hid (Ct.clm_yes h0 h3.1 h3.2); clear h0
      have HC := Lib.hid (fun w => isClaim_yes c w h3.1 h3.2); clear h3
      generalize Ln.byt x i = b at HB e0
      go_enter Try.func11, Try.ntmps11
      go_wp2_with fail
      with_reducible refine (HB.out _).mono ?_
      rintro e w' ⟨rfl, rfl⟩
      go_wp2_with fail
      with_reducible refine (HC.out _).mono ?_
      rintro e w' ⟨rfl, rfl⟩
      go_wp2_with fail
      with_reducible refine (HW.out _).mono ?_
      rintro e w' ⟨rfl, rfl⟩
      go_wp2
      go_ret
      exact ⟨ret_int E.out.symm, rfl⟩
    · have E := Lib.hid (Ct.clm_no (x := x) (i := i) (c := c) (fun q => h3 q.2)); clear h0
      have HC := Lib.hid (fun w => isClaim_no c w (by omega)); clear h3
      generalize Ln.byt x i = b at HB e0
      go_enter Try.func11, Try.ntmps11
      go_wp2_with fail
      with_reducible refine (HB.out _).mono ?_
      rintro e w' ⟨rfl, rfl⟩
      go_wp2_with fail
      with_reducible refine (HC.out _).mono ?_
      rintro e w' ⟨rfl, rfl⟩
      go_wp2
      go_ret
      exact ⟨ret_int E.out.symm, rfl⟩
  · have e0 : (Ln.byt x i != 0) = true := by simp [h0]
    have E := Lib.hid (Ct.clm_no (x := x) (i := i) (c := c) (fun q => h0 q.1)); clear h0
    generalize Ln.byt x i = b at HB e0
    go_enter Try.func11, Try.ntmps11
    go_wp2_with fail
    with_reducible refine (HB.out _).mono ?_
    rintro e w' ⟨rfl, rfl⟩
    go_wp2
    go_ret
    exact ⟨ret_int E.out.symm, rfl⟩
set_option maxHeartbeats 1000000 in
/-- The document's Claim. -/
theorem rclaim_any (x i c : Int) (w : World) (hx0 : 0 ≤ x) (hx1 : x ≤ 18446744073709551615) : Calls Try.prog 12 #[.int .u64 x, .int .i64 i, .int .i64 c] w (Gives (.int .u64 (Ct.clm x i c)) w) := by
  have HB := Lib.hid (fun w => rbyte_any x i w hx0 hx1)
  have HW := Lib.hid (fun w => rwith_any x i c w hx0 hx1)
  by_cases c0 : c < 128
  · have E := Lib.hid (Ct.clm_no (x := x) (i := i) (c := c) (by omega))
    go_enter Try.func12, Try.ntmps12
    go_wp2
    go_ret
    exact ⟨ret_int E.out.symm, Below.refl _ _⟩
  · by_cases c1 : 255 < c
    · have E := Lib.hid (Ct.clm_no (x := x) (i := i) (c := c) (by omega))
      go_enter Try.func12, Try.ntmps12
      go_wp2
      go_ret
      exact ⟨ret_int E.out.symm, Below.refl _ _⟩
    · by_cases h0 : Ln.byt x i = 0
      · have e0 : (Ln.byt x i != 0) = false := by simp [h0]
        have E := Lib.hid (Ct.clm_yes (c := c) h0 (by omega) (by omega)); clear h0
        generalize Ln.byt x i = b at HB e0
        go_enter Try.func12, Try.ntmps12
        go_wp2_with fail
        with_reducible refine (HB.out _).mono ?_
        rintro e w' ⟨rfl, rfl⟩
        go_wp2_with fail
        with_reducible refine (HW.out _).mono ?_
        rintro e w' ⟨rfl, hb⟩
        go_wp2
        go_ret
        exact ⟨ret_int E.out.symm, hb⟩
      · have e0 : (Ln.byt x i != 0) = true := by simp [h0]
        have E := Lib.hid (Ct.clm_no (x := x) (i := i) (c := c) (fun q => h0 q.1)); clear h0
        generalize Ln.byt x i = b at HB e0
        go_enter Try.func12, Try.ntmps12
        go_wp2_with fail
        with_reducible refine (HB.out _).mono ?_
        rintro e w' ⟨rfl, rfl⟩
        go_wp2
        go_ret
        exact ⟨ret_int E.out.symm, Below.refl _ _⟩
set_option maxHeartbeats 1000000 in
/-- ctrl.Seal. -/
theorem seal_any (x : Int) (w : World) (hx0 : 0 ≤ x) (hx1 : x ≤ 18446744073709551615) : Calls Try.prog 13 #[.int .u64 x] w (Gives (.int .u64 (Ct.sea x)) w) := by
  go_enter Try.func13, Try.ntmps13
  go_wp2_with fail
  with_reducible refine (fill_any _ _ _ hx0 hx1 _).mono ?_
  rintro e w' ⟨rfl, hb⟩
  go_wp2
  go_ret
  exact ⟨rfl, hb⟩
set_option maxHeartbeats 1000000 in
/-- The document's Seal. -/
theorem rseal_any (x : Int) (w : World) (hx0 : 0 ≤ x) (hx1 : x ≤ 18446744073709551615) : Calls Try.prog 14 #[.int .u64 x] w (Gives (.int .u64 (Ct.sea x)) w) := by
  go_enter Try.func14, Try.ntmps14
  go_wp2_with fail
  with_reducible refine (rfill_any _ _ _ _ hx0 hx1).mono ?_
  rintro e w' ⟨rfl, hb⟩
  go_wp2
  go_ret
  exact ⟨rfl, hb⟩
end Go.Proofs.Ytmdaekiogcecmaa
