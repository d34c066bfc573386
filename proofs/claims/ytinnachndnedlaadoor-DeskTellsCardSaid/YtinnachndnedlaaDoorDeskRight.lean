/-
  The walks of Right, the program's and the document's, and of the statements' own probe. By an AI agent.
-/
import Derived.Test.YtinnachndnedlaaDoorDeskRef
set_option linter.unusedSimpArgs false
set_option linter.unusedVariables false
namespace Go.Proofs.YtinnachndnedlaaDoor
open Go.RowKit
/-- May a site be. -/
def Dk.right (d t n k : Int) : Bool := (d != 0) && Dk.inn 1 64 n && Dk.inn 0 63 t && Dk.inn 1 64 k && decide (t < n)
/-- A site's box. -/
abbrev boxed (w : World) (d t n k s : Int) : World := w.alloc (.cells #[.int .u64 d, .int .i64 t, .int .i64 n, .int .i64 k, .int .u64 s] 24)
theorem boxed_below (w : World) (d t n k s : Int) : Below w.heap.size w (boxed w d t n k s) := (Below.refl _ _).alloc (Nat.le_refl _) _
/-- The cells of a box, in a world behind it. -/
theorem boxed_cells {w w' : World} {d t n k s : Int} (h : Below (boxed w d t n k s).heap.size (boxed w d t n k s) w') : w'.cell? ⟨w.heap.size, 0, none⟩ = some (.int .u64 d) ∧ w'.cell? ⟨w.heap.size, 1, none⟩ = some (.int .i64 t) ∧ w'.cell? ⟨w.heap.size, 2, none⟩ = some (.int .i64 n) ∧ w'.cell? ⟨w.heap.size, 3, none⟩ = some (.int .i64 k) ∧ w'.cell? ⟨w.heap.size, 4, none⟩ = some (.int .u64 s) := by
  have hs : w.heap.size < (boxed w d t n k s).heap.size := by simp
  refine ⟨?_, ?_, ?_, ?_, ?_⟩ <;> rw [h.cell hs, World.cell?_alloc_new] <;> rfl
set_option maxRecDepth 100000 in
set_option maxHeartbeats 2000000 in
/-- desk.Right. -/
theorem right_any (d t n k s : Int) (w : World) (h : Bd w) : Calls Tryd.prog 7 #[.agg #[.int .u64 d, .int .i64 t, .int .i64 n, .int .i64 k, .int .u64 s]] w (Gives (.bool (Dk.right d t n k)) w) := by
  have HB := Lib.hid (boxed_below w d t n k s)
  have KN := Lib.hid (within_0 n (boxed w d t n k s) (h.below HB.out))
  have KT := Lib.hid (within_1 t (boxed w d t n k s) (h.below HB.out))
  have KK := Lib.hid (within_2 k (boxed w d t n k s) (h.below HB.out))
  clear h
  unfold Dk.right
  cases hd : (d != 0) with
  | false =>
    go_enter Tryd.func7, Tryd.ntmps7
    go_wp2
    go_ret
    exact ⟨rfl, HB.out⟩
  | true =>
    cases hn : Dk.inn 1 64 n with
    | false =>
      rw [hn] at KN
      go_enter Tryd.func7, Tryd.ntmps7
      go_wp2_with fail
      with_reducible refine KN.out.mono ?_
      rintro e w1 ⟨rfl, rfl⟩
      go_wp2
      go_ret
      exact ⟨rfl, HB.out⟩
    | true =>
      rw [hn] at KN
      cases ht : Dk.inn 0 63 t with
      | false =>
        rw [ht] at KT
        go_enter Tryd.func7, Tryd.ntmps7
        go_wp2_with fail
        with_reducible refine KN.out.mono ?_
        rintro e w1 ⟨rfl, rfl⟩
        go_wp2_with fail
        with_reducible refine KT.out.mono ?_
        rintro e w1 ⟨rfl, rfl⟩
        go_wp2
        go_ret
        exact ⟨rfl, HB.out⟩
      | true =>
        rw [ht] at KT
        cases hk : Dk.inn 1 64 k with
        | false =>
          rw [hk] at KK
          go_enter Tryd.func7, Tryd.ntmps7
          go_wp2_with fail
          with_reducible refine KN.out.mono ?_
          rintro e w1 ⟨rfl, rfl⟩
          go_wp2_with fail
          with_reducible refine KT.out.mono ?_
          rintro e w1 ⟨rfl, rfl⟩
          go_wp2_with fail
          with_reducible refine KK.out.mono ?_
          rintro e w1 ⟨rfl, rfl⟩
          go_wp2
          go_ret
          exact ⟨rfl, HB.out⟩
        | true =>
          rw [hk] at KK
          go_enter Tryd.func7, Tryd.ntmps7
          go_wp2_with fail
          with_reducible refine KN.out.mono ?_
          rintro e w1 ⟨rfl, rfl⟩
          go_wp2_with fail
          with_reducible refine KT.out.mono ?_
          rintro e w1 ⟨rfl, rfl⟩
          go_wp2_with fail
          with_reducible refine KK.out.mono ?_
          rintro e w1 ⟨rfl, rfl⟩
          go_wp2
          go_ret
          exact ⟨rfl, HB.out⟩
set_option maxRecDepth 100000 in
set_option maxHeartbeats 2000000 in
/-- The document's Right. -/
theorem rright_any (d t n k s : Int) (w : World) (h0 : 0 ≤ d) : Calls Tryd.prog 8 #[.agg #[.int .u64 d, .int .i64 t, .int .i64 n, .int .i64 k, .int .u64 s]] w (Gives (.bool (Dk.right d t n k)) w) := by
  have HB := Lib.hid (boxed_below w d t n k s)
  have e : Dk.right d t n k = (decide (0 < d) && decide (1 ≤ n) && decide (n ≤ 64) && decide (0 ≤ t) && decide (t < n) && decide (1 ≤ k) && decide (k ≤ 64)) := by
    unfold Dk.right Dk.inn
    rw [Bool.eq_iff_iff]
    simp
    omega
  rw [e]
  clear e h0
  by_cases a : 0 < d
  · by_cases b : 1 ≤ n
    · by_cases c : n ≤ 64
      · by_cases f : 0 ≤ t
        · by_cases g : t < n
          · by_cases i : 1 ≤ k
            · by_cases j : k ≤ 64
              all_goals
                go_enter Tryd.func8, Tryd.ntmps8
                go_wp2
                go_ret
                exact ⟨by simp [*] <;> omega, HB.out⟩
            · go_enter Tryd.func8, Tryd.ntmps8
              go_wp2
              go_ret
              exact ⟨by simp [*] <;> omega, HB.out⟩
          · go_enter Tryd.func8, Tryd.ntmps8
            go_wp2
            go_ret
            exact ⟨by simp [*] <;> omega, HB.out⟩
        · go_enter Tryd.func8, Tryd.ntmps8
          go_wp2
          go_ret
          exact ⟨by simp [*] <;> omega, HB.out⟩
      · go_enter Tryd.func8, Tryd.ntmps8
        go_wp2
        go_ret
        exact ⟨by simp [*] <;> omega, HB.out⟩
    · go_enter Tryd.func8, Tryd.ntmps8
      go_wp2
      go_ret
      exact ⟨by simp [*] <;> omega, HB.out⟩
  · go_enter Tryd.func8, Tryd.ntmps8
    go_wp2
    go_ret
    exact ⟨by simp [*] <;> omega, HB.out⟩
/-- It returns b, and what was there lies as it lay. -/
def Says (b : Bool) (w : World) (e : Ending) (w' : World) : Prop := e = .returned (.bool b) ∧ Below w.heap.size w w'
theorem aw1 (w : World) (h : Bd w) : Calls Tryd.prog 5 #[.int .i64 5] w (Same (.tuple #[.int .i64 1, .bool true]) w) := whose_any 5 w h
theorem aw2 (w : World) (h : Bd w) : Calls Tryd.prog 9 #[.int .i64 3] w (Same (.int .i64 8) w) := size_any 3 w h
theorem aw3 (w : World) (h : Bd w) : Calls Tryd.prog 11 #[.int .i64 1] w (Same (.int .i64 4) w) := table_any 1 w h
theorem aw4 (w : World) (h : Bd w) : Calls Tryd.prog 13 #[.int .i64 1] w (Same (.int .i64 5) w) := box_any 1 w h
theorem aw5 (w : World) (h : Bd w) : Calls Tryd.prog 7 #[.agg #[.int .u64 1, .int .i64 0, .int .i64 1, .int .i64 1, .int .u64 0]] w (Gives (.bool true) w) := right_any 1 0 1 1 0 w h
theorem aw6 (w : World) (h : Bd w) : Calls Tryd.prog 7 #[.agg #[.int .u64 1, .int .i64 1, .int .i64 1, .int .i64 1, .int .u64 0]] w (Gives (.bool false) w) := right_any 1 1 1 1 0 w h
theorem aw7 (w : World) (h : Bd w) : Calls Tryd.prog 9 #[.int .i64 65] w (Same (.int .i64 0) w) := size_any 65 w h
set_option maxRecDepth 100000 in
set_option maxHeartbeats 1000000 in
/-- The probe: the fixed answers are given. -/
theorem awake_any (w : World) (h : Bd w) : Calls Tryd.prog 15 #[] w (Says true w) := by
  have H1 := Lib.hid (aw1 w h)
  have H2 := Lib.hid (aw2 w h)
  have H3 := Lib.hid (aw3 w h)
  have H4 := Lib.hid (aw4 w h)
  have H5 := Lib.hid (aw5 w h)
  have H6 := Lib.hid (fun w' (b : Below w.heap.size w w') => aw6 w' (h.below b))
  have H7 := Lib.hid (fun w' (b : Below w.heap.size w w') => aw7 w' (h.below b))
  clear h
  go_enter Tryd.func15, Tryd.ntmps15
  go_wp2_with fail
  with_reducible refine H1.out.mono ?_
  rintro e w1 ⟨rfl, rfl⟩
  go_wp2_with fail
  with_reducible refine H2.out.mono ?_
  rintro e w1 ⟨rfl, rfl⟩
  go_wp2_with fail
  with_reducible refine H3.out.mono ?_
  rintro e w1 ⟨rfl, rfl⟩
  go_wp2_with fail
  with_reducible refine H4.out.mono ?_
  rintro e w1 ⟨rfl, rfl⟩
  go_wp2_with fail
  with_reducible refine H5.out.mono ?_
  rintro e w5 ⟨rfl, b5⟩
  go_wp2_with fail
  with_reducible refine (H6.out _ b5).mono ?_
  rintro e w6 ⟨rfl, b6⟩
  have b7 := below_then b5 b6
  go_wp2_with fail
  with_reducible refine (H7.out _ b7).mono ?_
  rintro e w7 ⟨rfl, rfl⟩
  go_wp2
  go_ret
  exact ⟨rfl, b7⟩
end Go.Proofs.YtinnachndnedlaaDoor
