/-
  The walks of Right, the program's and the document's, and of the statements' own probe. By an AI agent.
-/
import Derived.Test.YtjmgjgohllihdaaDoorDeskRef
set_option linter.unusedSimpArgs false
set_option linter.unusedVariables false
namespace Go.Proofs.YtjmgjgohllihdaaDoor
open Go.RowKit
/-- May a site be. -/
def Dk.right (d t n k : Int) : Bool := (d != 0) && Dk.inn 1 64 n && Dk.inn 0 63 t && Dk.inn 1 64 k && decide (t < n)
/-- A site's box. -/
abbrev sboxed (w : World) (d t n k s : Int) : World := w.alloc (.cells #[.int .u64 d, .int .i64 t, .int .i64 n, .int .i64 k, .int .u64 s] 24)
theorem sboxed_below (w : World) (d t n k s : Int) : Below w.heap.size w (sboxed w d t n k s) := (Below.refl _ _).alloc (Nat.le_refl _) _
/-- The cells of a box, in a world behind it. -/
theorem sboxed_cells {w w' : World} {d t n k s : Int} (h : Below (sboxed w d t n k s).heap.size (sboxed w d t n k s) w') : w'.cell? ⟨w.heap.size, 0, none⟩ = some (.int .u64 d) ∧ w'.cell? ⟨w.heap.size, 1, none⟩ = some (.int .i64 t) ∧ w'.cell? ⟨w.heap.size, 2, none⟩ = some (.int .i64 n) ∧ w'.cell? ⟨w.heap.size, 3, none⟩ = some (.int .i64 k) ∧ w'.cell? ⟨w.heap.size, 4, none⟩ = some (.int .u64 s) := by
  have hs : w.heap.size < (sboxed w d t n k s).heap.size := by simp
  refine ⟨?_, ?_, ?_, ?_, ?_⟩ <;> rw [h.cell hs, World.cell?_alloc_new] <;> rfl
set_option maxRecDepth 100000 in
set_option maxHeartbeats 2000000 in
/-- desk.Right. -/
theorem dright_any (d t n k s : Int) (w : World) (h : Bd w) : Calls Tryd.prog 22 #[.agg #[.int .u64 d, .int .i64 t, .int .i64 n, .int .i64 k, .int .u64 s]] w (Gives (.bool (Dk.right d t n k)) w) := by
  have HB := Lib.hid (sboxed_below w d t n k s)
  have KN := Lib.hid (within_0 n (sboxed w d t n k s) (h.below HB.out))
  have KT := Lib.hid (within_1 t (sboxed w d t n k s) (h.below HB.out))
  have KK := Lib.hid (within_2 k (sboxed w d t n k s) (h.below HB.out))
  clear h
  unfold Dk.right
  cases hd : (d != 0) with
  | false =>
    go_enter Tryd.func22, Tryd.ntmps22
    go_wp2
    go_ret
    exact ⟨rfl, HB.out⟩
  | true =>
    cases hn : Dk.inn 1 64 n with
    | false =>
      rw [hn] at KN
      go_enter Tryd.func22, Tryd.ntmps22
      go_wp2_with fail
      with_reducible refine KN.out.mono ?_
      rintro e w1 ⟨rfl, rfl⟩
      go_wp2
      go_ret
      exact ⟨rfl, HB.out⟩
    | true =>
      rw [hn] at KN
      cases ht : Dk.inn 0 63 t with
      | false =>
        rw [ht] at KT
        go_enter Tryd.func22, Tryd.ntmps22
        go_wp2_with fail
        with_reducible refine KN.out.mono ?_
        rintro e w1 ⟨rfl, rfl⟩
        go_wp2_with fail
        with_reducible refine KT.out.mono ?_
        rintro e w1 ⟨rfl, rfl⟩
        go_wp2
        go_ret
        exact ⟨rfl, HB.out⟩
      | true =>
        rw [ht] at KT
        cases hk : Dk.inn 1 64 k with
        | false =>
          rw [hk] at KK
          go_enter Tryd.func22, Tryd.ntmps22
          go_wp2_with fail
          with_reducible refine KN.out.mono ?_
          rintro e w1 ⟨rfl, rfl⟩
          go_wp2_with fail
          with_reducible refine KT.out.mono ?_
          rintro e w1 ⟨rfl, rfl⟩
          go_wp2_with fail
          with_reducible refine KK.out.mono ?_
          rintro e w1 ⟨rfl, rfl⟩
          go_wp2
          go_ret
          exact ⟨rfl, HB.out⟩
        | true =>
          rw [hk] at KK
          go_enter Tryd.func22, Tryd.ntmps22
          go_wp2_with fail
          with_reducible refine KN.out.mono ?_
          rintro e w1 ⟨rfl, rfl⟩
          go_wp2_with fail
          with_reducible refine KT.out.mono ?_
          rintro e w1 ⟨rfl, rfl⟩
          go_wp2_with fail
          with_reducible refine KK.out.mono ?_
          rintro e w1 ⟨rfl, rfl⟩
          go_wp2
          go_ret
          exact ⟨rfl, HB.out⟩
set_option maxRecDepth 100000 in
set_option maxHeartbeats 2000000 in
/-- The document's Right. -/
theorem drright_any (d t n k s : Int) (w : World) (h0 : 0 ≤ d) : Calls Tryd.prog 7 #[.agg #[.int .u64 d, .int .i64 t, .int .i64 n, .int .i64 k, .int .u64 s]] w (Gives (.bool (Dk.right d t n k)) w) := by
  have HB := Lib.hid (sboxed_below w d t n k s)
  have e : Dk.right d t n k = (decide (0 < d) && decide (1 ≤ n) && decide (n ≤ 64) && decide (0 ≤ t) && decide (t < n) && decide (1 ≤ k) && decide (k ≤ 64)) := by
    unfold Dk.right Dk.inn
    rw [Bool.eq_iff_iff]
    simp
    omega
  rw [e]
  clear e h0
  by_cases a : 0 < d
  · by_cases b : 1 ≤ n
    · by_cases c : n ≤ 64
      · by_cases f : 0 ≤ t
        · by_cases g : t < n
          · by_cases i : 1 ≤ k
            · by_cases j : k ≤ 64
              all_goals
                go_enter Tryd.func7, Tryd.ntmps7
                go_wp2
                go_ret
                exact ⟨by simp [*] <;> omega, HB.out⟩
            · go_enter Tryd.func7, Tryd.ntmps7
              go_wp2
              go_ret
              exact ⟨by simp [*] <;> omega, HB.out⟩
          · go_enter Tryd.func7, Tryd.ntmps7
            go_wp2
            go_ret
            exact ⟨by simp [*] <;> omega, HB.out⟩
        · go_enter Tryd.func7, Tryd.ntmps7
          go_wp2
          go_ret
          exact ⟨by simp [*] <;> omega, HB.out⟩
      · go_enter Tryd.func7, Tryd.ntmps7
        go_wp2
        go_ret
        exact ⟨by simp [*] <;> omega, HB.out⟩
    · go_enter Tryd.func7, Tryd.ntmps7
      go_wp2
      go_ret
      exact ⟨by simp [*] <;> omega, HB.out⟩
  · go_enter Tryd.func7, Tryd.ntmps7
    go_wp2
    go_ret
    exact ⟨by simp [*] <;> omega, HB.out⟩
/-- It returns b, and what was there lies as it lay. -/
def Says (b : Bool) (w : World) (e : Ending) (w' : World) : Prop := e = .returned (.bool b) ∧ Below w.heap.size w w'
theorem aw2 (w : World) (h : Bd w) : Calls Tryd.prog 14 #[.int .i64 3] w (Same (.int .i64 8) w) := dsize_any 3 w h
theorem aw3 (w : World) (h : Bd w) : Calls Tryd.prog 40 #[.int .i64 1] w (Same (.int .i64 4) w) := dtable_any 1 w h
theorem aw4 (w : World) (h : Bd w) : Calls Tryd.prog 18 #[.int .i64 1] w (Same (.int .i64 5) w) := dbox_any 1 w h
theorem aw5 (w : World) (h : Bd w) : Calls Tryd.prog 22 #[.agg #[.int .u64 1, .int .i64 0, .int .i64 1, .int .i64 1, .int .u64 0]] w (Gives (.bool true) w) := dright_any 1 0 1 1 0 w h
theorem aw6 (w : World) (h : Bd w) : Calls Tryd.prog 22 #[.agg #[.int .u64 1, .int .i64 1, .int .i64 1, .int .i64 1, .int .u64 0]] w (Gives (.bool false) w) := dright_any 1 1 1 1 0 w h
theorem aw7 (w : World) (h : Bd w) : Calls Tryd.prog 14 #[.int .i64 65] w (Same (.int .i64 0) w) := dsize_any 65 w h
end Go.Proofs.YtjmgjgohllihdaaDoor
