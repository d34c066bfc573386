/-
  Several texts in one: The table of bounds; the walks of within, Size, TableCell, BoxCell and Whose, the program's and the document's; The walks of the document's Size, TableCell, BoxCell and Whose; The walks of Right, the program's and the document's, and of the statements' own probe; The walks of Of, Block, Mark, Make and Again, and of the document's; The walks of Holds, Fresh and Frozen, and of the document's; parts compared. By an AI agent.
-/
import Derived.Test.YtknefjigdlbacaaGreatDoorSkGAH
import Derived.Test.YtknefjigdlbacaaGreatDoorChecked
import Derived.WalkKit
import Derived.WalkSpells
import Derived.WalkLawsBesides
import Derived.WalkMore
import Derived.WalkSmall
import Derived.Below
import Derived.Lib.Hide
import Derived.IntWalk
import Derived.Test.YtknefjigdlbacaaGreatDoorSkGAI
import Derived.Test.YtknefjigdlbacaaGreatDoorSkGAA
import Derived.Laws.StructEq
set_option linter.unusedSimpArgs false
set_option linter.unusedVariables false
namespace Go.Proofs.YtknefjigdlbacaaGreatDoor
open Go.RowKit
/-- The bounds, as cells. -/
def bds : Array Value := #[.int .i64 1, .int .i64 64, .int .i64 0, .int .i64 63, .int .i64 1, .int .i64 64]
/-- The variable holds the bounds. -/
def Bd (w : World) : Prop := w.var? Tryz.prog "sprocket/desk.bounds" = some bds
theorem gBd : Tryz.prog.globalNamed "sprocket/desk.bounds" = some 0 := by kernel_rfl
theorem Bd.lt {w : World} (h : Bd w) : 0 < w.heap.size := by
  unfold Bd World.var? at h
  rw [gBd] at h
  simp only [Option.bind_some] at h
  rcases Nat.lt_or_ge 0 w.heap.size with h' | h'
  · exact h'
  · rw [Array.getElem?_eq_none h'] at h; cases h
theorem Bd.below {w w' : World} (h : Bd w) (hb : Below w.heap.size w w') : Bd w' := by
  have hlt := h.lt
  unfold Bd World.var? at h ⊢
  rw [gBd] at h ⊢
  simp only [Option.bind_some] at h ⊢
  rw [hb.block 0 hlt]
  exact h
theorem Bd.cell {w : World} (h : Bd w) {i : Nat} (hi : i < 6) : w.cell? ⟨0, i, none⟩ = bds[i]? := by
  unfold Bd World.var? at h
  rw [gBd] at h
  simp only [Option.bind_some] at h
  unfold World.cell?
  split at h
  · rename_i e; simp only [e]; cases h; simp
  · cases h
theorem Bd.cells {w : World} (h : Bd w) : w.cell? ⟨0, 0, none⟩ = some (.int .i64 1) ∧ w.cell? ⟨0, 1, none⟩ = some (.int .i64 64) ∧ w.cell? ⟨0, 2, none⟩ = some (.int .i64 0) ∧ w.cell? ⟨0, 3, none⟩ = some (.int .i64 63) ∧ w.cell? ⟨0, 4, none⟩ = some (.int .i64 1) ∧ w.cell? ⟨0, 5, none⟩ = some (.int .i64 64) :=
  ⟨(h.cell (i := 0) (by omega)).trans rfl, (h.cell (i := 1) (by omega)).trans rfl, (h.cell (i := 2) (by omega)).trans rfl, (h.cell (i := 3) (by omega)).trans rfl, (h.cell (i := 4) (by omega)).trans rfl, (h.cell (i := 5) (by omega)).trans rfl⟩
namespace Dk
/-- Between two bounds. -/
def inn (a b n : Int) : Bool := decide (a ≤ n ∧ n ≤ b)
theorem inn_yes {a b n : Int} (h0 : a ≤ n) (h1 : n ≤ b) : inn a b n = true := decide_eq_true ⟨h0, h1⟩
theorem inn_no {a b n : Int} (h : n < a ∨ b < n) : inn a b n = false := decide_eq_false (by omega)
/-- How many cells. -/
def size (n : Int) : Int := if 1 ≤ n ∧ n ≤ 64 then 2 + 2 * n else 0
/-- The cell for a table. -/
def tab (n : Int) : Int := if 0 ≤ n ∧ n ≤ 63 then 2 + 2 * n else -1
/-- The cell for a box. -/
def box (n : Int) : Int := if 0 ≤ n ∧ n ≤ 63 then 3 + 2 * n else -1
/-- Whose. -/
def who (c : Int) : Int := if 2 ≤ c ∧ c ≤ 129 then c / 2 - 1 else -1
def isb (c : Int) : Bool := decide (2 ≤ c ∧ c ≤ 129 ∧ c % 2 = 1)
theorem size_in {n : Int} (h0 : 1 ≤ n) (h1 : n ≤ 64) : size n = 2 + 2 * n := if_pos ⟨h0, h1⟩
theorem size_out {n : Int} (h : n < 1 ∨ 64 < n) : size n = 0 := if_neg (by omega)
theorem tab_in {n : Int} (h0 : 0 ≤ n) (h1 : n ≤ 63) : tab n = 2 + 2 * n := if_pos ⟨h0, h1⟩
theorem tab_out {n : Int} (h : n < 0 ∨ 63 < n) : tab n = -1 := if_neg (by omega)
theorem box_in {n : Int} (h0 : 0 ≤ n) (h1 : n ≤ 63) : box n = 3 + 2 * n := if_pos ⟨h0, h1⟩
theorem box_out {n : Int} (h : n < 0 ∨ 63 < n) : box n = -1 := if_neg (by omega)
theorem who_in {n : Int} (h0 : 2 ≤ n) (h1 : n ≤ 129) : who n = n / 2 - 1 := if_pos ⟨h0, h1⟩
theorem who_out {n : Int} (h : n < 2 ∨ 129 < n) : who n = -1 := if_neg (by omega)
theorem isb_in {n : Int} (h0 : 2 ≤ n) (h1 : n ≤ 129) : isb n = decide (n % 2 = 1) := by
  unfold isb; by_cases h : n % 2 = 1
  · rw [decide_eq_true h]; exact decide_eq_true ⟨h0, h1, h⟩
  · rw [decide_eq_false h]; exact decide_eq_false (by omega)
theorem isb_out {n : Int} (h : n < 2 ∨ 129 < n) : isb n = false := decide_eq_false (by omega)
end Dk
set_option maxRecDepth 100000 in
set_option maxHeartbeats 1000000 in
theorem within_0 (n : Int) (w : World) (h : Bd w) : Calls Tryz.prog 69 #[.int .i64 0, .int .i64 n] w (Same (.bool (Dk.inn 1 64 n)) w) := by
  obtain ⟨c0, c1, c2, c3, c4, c5⟩ := h.cells
  clear h
  by_cases h0 : 1 ≤ n
  · by_cases h1 : n ≤ 64
    · rw [Dk.inn_yes h0 h1]
      go_enter Tryz.func69, Tryz.ntmps69
      go_wp2
      go_ret
      exact ⟨rfl, rfl⟩
    · rw [Dk.inn_no (by omega)]
      go_enter Tryz.func69, Tryz.ntmps69
      go_wp2
      go_ret
      exact ⟨rfl, rfl⟩
  · rw [Dk.inn_no (by omega)]
    go_enter Tryz.func69, Tryz.ntmps69
    go_wp2
    go_ret
    exact ⟨rfl, rfl⟩
set_option maxRecDepth 100000 in
set_option maxHeartbeats 1000000 in
theorem within_1 (n : Int) (w : World) (h : Bd w) : Calls Tryz.prog 69 #[.int .i64 1, .int .i64 n] w (Same (.bool (Dk.inn 0 63 n)) w) := by
  obtain ⟨c0, c1, c2, c3, c4, c5⟩ := h.cells
  clear h
  by_cases h0 : 0 ≤ n
  · by_cases h1 : n ≤ 63
    · rw [Dk.inn_yes h0 h1]
      go_enter Tryz.func69, Tryz.ntmps69
      go_wp2
      go_ret
      exact ⟨rfl, rfl⟩
    · rw [Dk.inn_no (by omega)]
      go_enter Tryz.func69, Tryz.ntmps69
      go_wp2
      go_ret
      exact ⟨rfl, rfl⟩
  · rw [Dk.inn_no (by omega)]
    go_enter Tryz.func69, Tryz.ntmps69
    go_wp2
    go_ret
    exact ⟨rfl, rfl⟩
set_option maxRecDepth 100000 in
set_option maxHeartbeats 1000000 in
theorem within_2 (n : Int) (w : World) (h : Bd w) : Calls Tryz.prog 69 #[.int .i64 2, .int .i64 n] w (Same (.bool (Dk.inn 1 64 n)) w) := by
  obtain ⟨c0, c1, c2, c3, c4, c5⟩ := h.cells
  clear h
  by_cases h0 : 1 ≤ n
  · by_cases h1 : n ≤ 64
    · rw [Dk.inn_yes h0 h1]
      go_enter Tryz.func69, Tryz.ntmps69
      go_wp2
      go_ret
      exact ⟨rfl, rfl⟩
    · rw [Dk.inn_no (by omega)]
      go_enter Tryz.func69, Tryz.ntmps69
      go_wp2
      go_ret
      exact ⟨rfl, rfl⟩
  · rw [Dk.inn_no (by omega)]
    go_enter Tryz.func69, Tryz.ntmps69
    go_wp2
    go_ret
    exact ⟨rfl, rfl⟩
set_option maxRecDepth 100000 in
set_option maxHeartbeats 1000000 in
/-- desk.Size. -/
theorem dsize_any (n : Int) (w : World) (h : Bd w) : Calls Tryz.prog 59 #[.int .i64 n] w (Same (.int .i64 (Dk.size n)) w) := by
  have K := Lib.hid (within_0 n w h)
  clear h
  by_cases h0 : 1 ≤ n ∧ n ≤ 64
  · rw [Dk.inn_yes h0.1 h0.2] at K
    rw [Dk.size_in h0.1 h0.2]
    obtain ⟨h1, h2⟩ := h0
    go_enter Tryz.func59, Tryz.ntmps59
    go_wp2_with fail
    with_reducible refine K.out.mono ?_
    rintro e w1 ⟨rfl, rfl⟩
    go_wp2
    go_ret
    exact ⟨rfl, rfl⟩
  · have h1 : n < 1 ∨ 64 < n := by omega
    rw [Dk.inn_no h1] at K
    rw [Dk.size_out h1]
    clear h0 h1
    go_enter Tryz.func59, Tryz.ntmps59
    go_wp2_with fail
    with_reducible refine K.out.mono ?_
    rintro e w1 ⟨rfl, rfl⟩
    go_wp2
    go_ret
    exact ⟨rfl, rfl⟩
set_option maxRecDepth 100000 in
set_option maxHeartbeats 1000000 in
/-- desk.TableCell. -/
theorem dtable_any (n : Int) (w : World) (h : Bd w) : Calls Tryz.prog 164 #[.int .i64 n] w (Same (.int .i64 (Dk.tab n)) w) := by
  have K := Lib.hid (within_1 n w h)
  clear h
  by_cases h0 : 0 ≤ n ∧ n ≤ 63
  · rw [Dk.inn_yes h0.1 h0.2] at K
    rw [Dk.tab_in h0.1 h0.2]
    obtain ⟨h1, h2⟩ := h0
    go_enter Tryz.func164, Tryz.ntmps164
    go_wp2_with fail
    with_reducible refine K.out.mono ?_
    rintro e w1 ⟨rfl, rfl⟩
    go_wp2
    go_ret
    exact ⟨rfl, rfl⟩
  · have h1 : n < 0 ∨ 63 < n := by omega
    rw [Dk.inn_no h1] at K
    rw [Dk.tab_out h1]
    clear h0 h1
    go_enter Tryz.func164, Tryz.ntmps164
    go_wp2_with fail
    with_reducible refine K.out.mono ?_
    rintro e w1 ⟨rfl, rfl⟩
    go_wp2
    go_ret
    exact ⟨rfl, rfl⟩
set_option maxRecDepth 100000 in
set_option maxHeartbeats 1000000 in
/-- desk.BoxCell. -/
theorem dbox_any (n : Int) (w : World) (h : Bd w) : Calls Tryz.prog 154 #[.int .i64 n] w (Same (.int .i64 (Dk.box n)) w) := by
  have K := Lib.hid (within_1 n w h)
  have T := Lib.hid (dtable_any n w h)
  clear h
  by_cases h0 : 0 ≤ n ∧ n ≤ 63
  · rw [Dk.inn_yes h0.1 h0.2] at K
    rw [Dk.tab_in h0.1 h0.2] at T
    rw [Dk.box_in h0.1 h0.2]
    obtain ⟨h1, h2⟩ := h0
    go_enter Tryz.func154, Tryz.ntmps154
    go_wp2_with fail
    with_reducible refine K.out.mono ?_
    rintro e w1 ⟨rfl, rfl⟩
    go_wp2_with fail
    with_reducible refine T.out.mono ?_
    rintro e w1 ⟨rfl, rfl⟩
    go_wp2
    go_ret
    exact ⟨ret_int (by omega), rfl⟩
  · have h1 : n < 0 ∨ 63 < n := by omega
    rw [Dk.inn_no h1] at K
    rw [Dk.box_out h1]
    clear h0 h1 T
    go_enter Tryz.func154, Tryz.ntmps154
    go_wp2_with fail
    with_reducible refine K.out.mono ?_
    rintro e w1 ⟨rfl, rfl⟩
    go_wp2
    go_ret
    exact ⟨rfl, rfl⟩
/-- What Whose answers. -/
def whoV (c : Int) : Value := .tuple #[.int .i64 (Dk.who c), .bool (Dk.isb c)]
theorem who_bad {c : Int} (h : c < 2 ∨ 129 < c) : whoV c = .tuple #[.int .i64 (-1), .bool false] := by unfold whoV; rw [Dk.who_out h, Dk.isb_out h]
theorem who_tab {t : Int} (h0 : 0 ≤ t) (h1 : t ≤ 63) : whoV (2 + 2 * t) = .tuple #[.int .i64 t, .bool false] := by
  unfold whoV; rw [Dk.who_in (by omega) (by omega), Dk.isb_in (by omega) (by omega), decide_eq_false (by omega), show (2 + 2 * t) / 2 - 1 = t by omega]
theorem who_box {t : Int} (h0 : 0 ≤ t) (h1 : t ≤ 63) : whoV (3 + 2 * t) = .tuple #[.int .i64 t, .bool true] := by
  unfold whoV; rw [Dk.who_in (by omega) (by omega), Dk.isb_in (by omega) (by omega), decide_eq_true (by omega), show (3 + 2 * t) / 2 - 1 = t by omega]
theorem cell_cases (c : Int) : (c < 2 ∨ 129 < c) ∨ (∃ t, 0 ≤ t ∧ t ≤ 63 ∧ c = 2 + 2 * t) ∨ (∃ t, 0 ≤ t ∧ t ≤ 63 ∧ c = 3 + 2 * t) := by
  by_cases h : c < 2 ∨ 129 < c
  · exact .inl h
  · by_cases e : c % 2 = 0
    · exact .inr (.inl ⟨c / 2 - 1, by omega, by omega, by omega⟩)
    · exact .inr (.inr ⟨c / 2 - 1, by omega, by omega, by omega⟩)
theorem s64 (w : World) (h : Bd w) : Calls Tryz.prog 59 #[.int .i64 64] w (Same (.int .i64 130) w) := dsize_any 64 w h
end Go.Proofs.YtknefjigdlbacaaGreatDoor
set_option linter.unusedSimpArgs false
set_option linter.unusedVariables false
namespace Go.Proofs.YtknefjigdlbacaaGreatDoor
open Go.RowKit
set_option maxRecDepth 100000 in
set_option maxHeartbeats 1000000 in
theorem drbox_any (n : Int) (w : World) : Calls Tryz.prog 140 #[.int .i64 n] w (Same (.int .i64 (Dk.box n)) w) := by
  by_cases h0 : n < 0
  · rw [Dk.box_out (.inl h0)]
    go_enter Tryz.func140, Tryz.ntmps140
    go_wp2
    go_ret
    exact ⟨rfl, rfl⟩
  · by_cases h1 : 63 < n
    · rw [Dk.box_out (.inr h1)]
      go_enter Tryz.func140, Tryz.ntmps140
      go_wp2
      go_ret
      exact ⟨rfl, rfl⟩
    · rw [Dk.box_in (by omega) (by omega)]
      go_enter Tryz.func140, Tryz.ntmps140
      go_wp2
      go_ret
      exact ⟨ret_int (by omega), rfl⟩
end Go.Proofs.YtknefjigdlbacaaGreatDoor
set_option linter.unusedSimpArgs false
set_option linter.unusedVariables false
namespace Go.Proofs.YtknefjigdlbacaaGreatDoor
open Go.RowKit
/-- May a site be. -/
def Dk.right (d t n k : Int) : Bool := (d != 0) && Dk.inn 1 64 n && Dk.inn 0 63 t && Dk.inn 1 64 k && decide (t < n)
/-- A site's box. -/
abbrev sboxed (w : World) (d t n k s : Int) : World := w.alloc (.cells #[.int .u64 d, .int .i64 t, .int .i64 n, .int .i64 k, .int .u64 s] 26)
theorem sboxed_below (w : World) (d t n k s : Int) : Below w.heap.size w (sboxed w d t n k s) := (Below.refl _ _).alloc (Nat.le_refl _) _
/-- The cells of a box, in a world behind it. -/
theorem sboxed_cells {w w' : World} {d t n k s : Int} (h : Below (sboxed w d t n k s).heap.size (sboxed w d t n k s) w') : w'.cell? ⟨w.heap.size, 0, none⟩ = some (.int .u64 d) ∧ w'.cell? ⟨w.heap.size, 1, none⟩ = some (.int .i64 t) ∧ w'.cell? ⟨w.heap.size, 2, none⟩ = some (.int .i64 n) ∧ w'.cell? ⟨w.heap.size, 3, none⟩ = some (.int .i64 k) ∧ w'.cell? ⟨w.heap.size, 4, none⟩ = some (.int .u64 s) := by
  have hs : w.heap.size < (sboxed w d t n k s).heap.size := by simp
  refine ⟨?_, ?_, ?_, ?_, ?_⟩ <;> rw [h.cell hs, World.cell?_alloc_new] <;> rfl
set_option maxRecDepth 100000 in
set_option maxHeartbeats 2000000 in
/-- desk.Right. -/
theorem dright_any (d t n k s : Int) (w : World) (h : Bd w) : Calls Tryz.prog 19 #[.agg #[.int .u64 d, .int .i64 t, .int .i64 n, .int .i64 k, .int .u64 s]] w (Gives (.bool (Dk.right d t n k)) w) := by
  have HB := Lib.hid (sboxed_below w d t n k s)
  have KN := Lib.hid (within_0 n (sboxed w d t n k s) (h.below HB.out))
  have KT := Lib.hid (within_1 t (sboxed w d t n k s) (h.below HB.out))
  have KK := Lib.hid (within_2 k (sboxed w d t n k s) (h.below HB.out))
  clear h
  unfold Dk.right
  cases hd : (d != 0) with
  | false =>
    go_enter Tryz.func19, Tryz.ntmps19
    go_wp2
    go_ret
    exact ⟨rfl, HB.out⟩
  | true =>
    cases hn : Dk.inn 1 64 n with
    | false =>
      rw [hn] at KN
      go_enter Tryz.func19, Tryz.ntmps19
      go_wp2_with fail
      with_reducible refine KN.out.mono ?_
      rintro e w1 ⟨rfl, rfl⟩
      go_wp2
      go_ret
      exact ⟨rfl, HB.out⟩
    | true =>
      rw [hn] at KN
      cases ht : Dk.inn 0 63 t with
      | false =>
        rw [ht] at KT
        go_enter Tryz.func19, Tryz.ntmps19
        go_wp2_with fail
        with_reducible refine KN.out.mono ?_
        rintro e w1 ⟨rfl, rfl⟩
        go_wp2_with fail
        with_reducible refine KT.out.mono ?_
        rintro e w1 ⟨rfl, rfl⟩
        go_wp2
        go_ret
        exact ⟨rfl, HB.out⟩
      | true =>
        rw [ht] at KT
        cases hk : Dk.inn 1 64 k with
        | false =>
          rw [hk] at KK
          go_enter Tryz.func19, Tryz.ntmps19
          go_wp2_with fail
          with_reducible refine KN.out.mono ?_
          rintro e w1 ⟨rfl, rfl⟩
          go_wp2_with fail
          with_reducible refine KT.out.mono ?_
          rintro e w1 ⟨rfl, rfl⟩
          go_wp2_with fail
          with_reducible refine KK.out.mono ?_
          rintro e w1 ⟨rfl, rfl⟩
          go_wp2
          go_ret
          exact ⟨rfl, HB.out⟩
        | true =>
          rw [hk] at KK
          go_enter Tryz.func19, Tryz.ntmps19
          go_wp2_with fail
          with_reducible refine KN.out.mono ?_
          rintro e w1 ⟨rfl, rfl⟩
          go_wp2_with fail
          with_reducible refine KT.out.mono ?_
          rintro e w1 ⟨rfl, rfl⟩
          go_wp2_with fail
          with_reducible refine KK.out.mono ?_
          rintro e w1 ⟨rfl, rfl⟩
          go_wp2
          go_ret
          exact ⟨rfl, HB.out⟩
set_option maxRecDepth 100000 in
set_option maxHeartbeats 2000000 in
/-- The document's Right. -/
theorem drright_any (d t n k s : Int) (w : World) (h0 : 0 ≤ d) : Calls Tryz.prog 23 #[.agg #[.int .u64 d, .int .i64 t, .int .i64 n, .int .i64 k, .int .u64 s]] w (Gives (.bool (Dk.right d t n k)) w) := by
  have HB := Lib.hid (sboxed_below w d t n k s)
  have e : Dk.right d t n k = (decide (0 < d) && decide (1 ≤ n) && decide (n ≤ 64) && decide (0 ≤ t) && decide (t < n) && decide (1 ≤ k) && decide (k ≤ 64)) := by
    unfold Dk.right Dk.inn
    rw [Bool.eq_iff_iff]
    simp
    omega
  rw [e]
  clear e h0
  by_cases a : 0 < d
  · by_cases b : 1 ≤ n
    · by_cases c : n ≤ 64
      · by_cases f : 0 ≤ t
        · by_cases g : t < n
          · by_cases i : 1 ≤ k
            · by_cases j : k ≤ 64
              all_goals
                go_enter Tryz.func23, Tryz.ntmps23
                go_wp2
                go_ret
                exact ⟨by simp [*] <;> omega, HB.out⟩
            · go_enter Tryz.func23, Tryz.ntmps23
              go_wp2
              go_ret
              exact ⟨by simp [*] <;> omega, HB.out⟩
          · go_enter Tryz.func23, Tryz.ntmps23
            go_wp2
            go_ret
            exact ⟨by simp [*] <;> omega, HB.out⟩
        · go_enter Tryz.func23, Tryz.ntmps23
          go_wp2
          go_ret
          exact ⟨by simp [*] <;> omega, HB.out⟩
      · go_enter Tryz.func23, Tryz.ntmps23
        go_wp2
        go_ret
        exact ⟨by simp [*] <;> omega, HB.out⟩
    · go_enter Tryz.func23, Tryz.ntmps23
      go_wp2
      go_ret
      exact ⟨by simp [*] <;> omega, HB.out⟩
  · go_enter Tryz.func23, Tryz.ntmps23
    go_wp2
    go_ret
    exact ⟨by simp [*] <;> omega, HB.out⟩
/-- It returns b, and what was there lies as it lay. -/
def Says (b : Bool) (w : World) (e : Ending) (w' : World) : Prop := e = .returned (.bool b) ∧ Below w.heap.size w w'
theorem aw2 (w : World) (h : Bd w) : Calls Tryz.prog 59 #[.int .i64 3] w (Same (.int .i64 8) w) := dsize_any 3 w h
theorem aw3 (w : World) (h : Bd w) : Calls Tryz.prog 164 #[.int .i64 1] w (Same (.int .i64 4) w) := dtable_any 1 w h
theorem aw4 (w : World) (h : Bd w) : Calls Tryz.prog 154 #[.int .i64 1] w (Same (.int .i64 5) w) := dbox_any 1 w h
theorem aw5 (w : World) (h : Bd w) : Calls Tryz.prog 19 #[.agg #[.int .u64 1, .int .i64 0, .int .i64 1, .int .i64 1, .int .u64 0]] w (Gives (.bool true) w) := dright_any 1 0 1 1 0 w h
theorem aw6 (w : World) (h : Bd w) : Calls Tryz.prog 19 #[.agg #[.int .u64 1, .int .i64 1, .int .i64 1, .int .i64 1, .int .u64 0]] w (Gives (.bool false) w) := dright_any 1 1 1 1 0 w h
theorem aw7 (w : World) (h : Bd w) : Calls Tryz.prog 59 #[.int .i64 65] w (Same (.int .i64 0) w) := dsize_any 65 w h
end Go.Proofs.YtknefjigdlbacaaGreatDoor
set_option linter.unusedSimpArgs false
set_option linter.unusedVariables false
namespace Go.Proofs.YtknefjigdlbacaaGreatDoor
open Go.RowKit
theorem ret_bool {a b : Bool} (h : a = b) : Ending.returned (.bool a) = .returned (.bool b) := by rw [h]
set_option maxHeartbeats 1000000 in
theorem of_any (x : Int) (w : World) (h0 : 0 ≤ x) (h1 : x ≤ 18446744073709551615) : Calls Tryz.prog 127 #[.int .u64 x] w (Gives (.agg #[.int .u64 (x / 8), .int .i64 (x % 8)]) w) := by
  go_enter Tryz.func127, Tryz.ntmps127
  go_wp2
  exact bodyPost_ret (v := .agg #[.int .u64 (x / 8), .int .i64 (x % 8)]) (by simp [results, Tryz.results127, go_sem]) rfl ⟨rfl, (Below.refl _ _).alloc (Nat.le_refl _) _⟩
set_option maxHeartbeats 1000000 in
theorem rblock_any (x : Int) (w : World) (h0 : 0 ≤ x) (h1 : x ≤ 18446744073709551615) : Calls Tryz.prog 110 #[.int .u64 x] w (Same (.int .u64 (x / 8)) w) := by
  go_enter Tryz.func110, Tryz.ntmps110
  go_wp2
  go_ret
  exact ⟨rfl, rfl⟩
set_option maxHeartbeats 1000000 in
theorem tgmake_any (b m : Int) (w : World) (h0 : 0 ≤ b) (h1 : b ≤ 18446744073709551615) (m0 : -9223372036854775808 ≤ m) (m1 : m ≤ 9223372036854775807) : Calls Tryz.prog 83 #[.int .u64 b, .int .i64 m] w (Same (.int .u64 (Tg.mk b m)) w) := by
  go_enter Tryz.func83, Tryz.ntmps83
  go_wp2
  go_ret
  refine ⟨ret_int ?_, rfl⟩
  have e : IntKind.u64.wrap m = m % 18446744073709551616 := u64_wrap m
  rw [e, Int.tmod_eq_emod_of_nonneg (by omega), u64_wrap, u64_wrap]
  unfold Tg.mk
  omega
set_option maxHeartbeats 1000000 in
theorem rmake_any (b m : Int) (w : World) (h0 : 0 ≤ b) (h1 : b ≤ 18446744073709551615) (m0 : -9223372036854775808 ≤ m) (m1 : m ≤ 9223372036854775807) : Calls Tryz.prog 55 #[.int .u64 b, .int .i64 m] w (Same (.int .u64 (Tg.mk b m)) w) := by
  by_cases k : m.tmod 8 < 0
  · go_enter Tryz.func55, Tryz.ntmps55
    go_wp2
    go_ret
    refine ⟨ret_int ?_, rfl⟩
    have e := Tg.tmod_neg k
    rw [wrap64_small (by omega) (by omega), u64_wrap, u64_wrap, u64_wrap]
    unfold Tg.mk
    omega
  · go_enter Tryz.func55, Tryz.ntmps55
    go_wp2
    go_ret
    refine ⟨ret_int ?_, rfl⟩
    have e := Tg.tmod_pos k
    rw [u64_wrap, u64_wrap, u64_wrap]
    unfold Tg.mk
    omega
theorem fld0 (b m : Int) : ∀ w : World, (Instr.field 168 (.agg #[.int .u64 b, .int .i64 m]) 0).run Tryz.prog w = .ok (.int .u64 b) w := fun _ => by kernel_rfl
theorem fld1 (b m : Int) : ∀ w : World, (Instr.field 168 (.agg #[.int .u64 b, .int .i64 m]) 1).run Tryz.prog w = .ok (.int .i64 m) w := fun _ => by kernel_rfl
set_option maxHeartbeats 1000000 in
theorem block_any (x : Int) (w : World) (h0 : 0 ≤ x) (h1 : x ≤ 18446744073709551615) : Calls Tryz.prog 84 #[.int .u64 x] w (Gives (.int .u64 (x / 8)) w) := by
  have K := Lib.hid fun w => of_any x w h0 h1
  have hf := fld0 (x / 8) (x % 8)
  go_enter Tryz.func84, Tryz.ntmps84
  go_wp2_with fail
  with_reducible refine (K.out _).mono ?_
  rintro e w1 ⟨rfl, hb⟩
  go_wp2
  go_ret
  exact ⟨rfl, hb⟩
set_option maxHeartbeats 1000000 in
theorem mark_any (x : Int) (w : World) (h0 : 0 ≤ x) (h1 : x ≤ 18446744073709551615) : Calls Tryz.prog 131 #[.int .u64 x] w (Gives (.int .i64 (x % 8)) w) := by
  have K := Lib.hid fun w => of_any x w h0 h1
  have hf := fld1 (x / 8) (x % 8)
  go_enter Tryz.func131, Tryz.ntmps131
  go_wp2_with fail
  with_reducible refine (K.out _).mono ?_
  rintro e w1 ⟨rfl, hb⟩
  go_wp2
  go_ret
  exact ⟨rfl, hb⟩
end Go.Proofs.YtknefjigdlbacaaGreatDoor
set_option linter.unusedSimpArgs false
set_option linter.unusedVariables false
namespace Go.Proofs.YtknefjigdlbacaaGreatDoor
open Go.RowKit
set_option maxHeartbeats 1000000 in
theorem holds_any (x : Int) (w : World) (h0 : 0 ≤ x) (h1 : x ≤ 18446744073709551615) : Calls Tryz.prog 91 #[.int .u64 x] w (Gives (.bool (Tg.hd x)) w) := by
  have K := Lib.hid fun w => of_any x w h0 h1
  have e : Tg.hd x = ((x / 8 != 0) && (decide (0 < x % 8) && decide (x % 8 < 5))) := by
    unfold Tg.hd
    have a : decide (8 ≤ x) = (x / 8 != 0) := by
      by_cases h : 8 ≤ x
      · have : x / 8 ≠ 0 := by omega
        simp [h, this]
      · have : x / 8 = 0 := by omega
        simp [h, this]
    have b : (decide (1 ≤ x % 8)) = decide (0 < x % 8) := by congr 1
    have c : (decide (x % 8 ≤ 4)) = decide (x % 8 < 5) := by congr 1; simp; omega
    rw [a, b, c]
  rw [e]
  clear e
  generalize x / 8 = b at K ⊢
  generalize x % 8 = m at K ⊢
  rcases c1 : (b != 0) with _ | _
  · go_enter Tryz.func91, Tryz.ntmps91
    go_wp2_with fail
    with_reducible refine (K.out _).mono ?_
    rintro e w1 ⟨rfl, hb⟩
    go_wp2
    go_ret
    exact ⟨rfl, hb.alloc hb.size _⟩
  · rcases c2 : (decide (0 < m)) with _ | _
    all_goals
      go_enter Tryz.func91, Tryz.ntmps91
      go_wp2_with fail
      with_reducible refine (K.out _).mono ?_
      rintro e w1 ⟨rfl, hb⟩
      go_wp2
      go_ret
      exact ⟨by simp, hb.alloc hb.size _⟩
set_option maxHeartbeats 1000000 in
theorem rholds_any (x : Int) (w : World) (h0 : 0 ≤ x) (h1 : x ≤ 18446744073709551615) : Calls Tryz.prog 107 #[.int .u64 x] w (Same (.bool (Tg.hd x)) w) := by
  unfold Tg.hd
  rcases c1 : (decide (8 ≤ x)) with _ | _ <;> rcases c2 : (decide (1 ≤ x % 8)) with _ | _
  all_goals
    go_enter Tryz.func107, Tryz.ntmps107
    go_wp2
    go_ret
    exact ⟨by simp, rfl⟩
/-- The mark of a word that holds, in the spelling of Fresh. -/
theorem fr_eq (x : Int) : Tg.fr x = (Tg.hd x && ((x % 8 == 1) || (x % 8 == 2))) := by
  unfold Tg.fr
  rcases h : Tg.hd x with _ | _
  · rfl
  · unfold Tg.hd at h
    simp at h
    rw [Bool.true_and, Bool.true_and, Bool.eq_iff_iff]
    simp
    omega
theorem fz_eq (x : Int) : (Tg.hd x && decide (2 < x % 8)) = (Tg.hd x && ((x % 8 == 3) || (x % 8 == 4))) := by
  rcases h : Tg.hd x with _ | _
  · rfl
  · unfold Tg.hd at h
    simp at h
    rw [Bool.true_and, Bool.true_and, Bool.eq_iff_iff]
    simp
    omega
theorem five_eq (x : Int) (h0 : 0 ≤ x) : (x == 5) = (x / 8 == 0 && x % 8 == 5) := by
  rw [Bool.eq_iff_iff]
  simp
  omega
set_option maxHeartbeats 1000000 in
theorem fresh_any (x : Int) (w : World) (h0 : 0 ≤ x) (h1 : x ≤ 18446744073709551615) : Calls Tryz.prog 89 #[.int .u64 x] w (Gives (.bool (Tg.fr x)) w) := by
  have K := Lib.hid fun w => mark_any x w h0 h1
  have H := Lib.hid fun w => holds_any x w h0 h1
  rw [fr_eq]
  generalize Tg.hd x = b at H ⊢
  generalize x % 8 = m at K ⊢
  cases b <;> rcases c1 : (m == 1) with _ | _
  all_goals
    go_enter Tryz.func89, Tryz.ntmps89
    go_wp2_with fail
    with_reducible refine (K.out _).mono ?_
    rintro e w1 ⟨rfl, hb⟩
    go_wp2_with fail
    with_reducible refine (H.out _).mono ?_
    rintro e w2 ⟨rfl, hb2⟩
    go_wp2
    go_ret
    exact ⟨by simp, below_then hb hb2⟩
set_option maxHeartbeats 1000000 in
theorem rfresh_any (x : Int) (w : World) (h0 : 0 ≤ x) (h1 : x ≤ 18446744073709551615) : Calls Tryz.prog 111 #[.int .u64 x] w (Same (.bool (Tg.fr x)) w) := by
  have H := Lib.hid fun w => rholds_any x w h0 h1
  unfold Tg.fr
  generalize Tg.hd x = b at H ⊢
  cases b
  all_goals
    go_enter Tryz.func111, Tryz.ntmps111
    go_wp2_with fail
    with_reducible refine (H.out _).mono ?_
    rintro e w2 ⟨rfl, rfl⟩
    go_wp2
    go_ret
    exact ⟨by simp, rfl⟩
/-- A pair's box, in a world behind it. -/
theorem box_cells {w w' : World} {b m : Int} (h : Below (w.alloc (.cells #[.int .u64 b, .int .i64 m] 168)).heap.size (w.alloc (.cells #[.int .u64 b, .int .i64 m] 168)) w') : w'.cell? ⟨w.heap.size, 0, none⟩ = some (.int .u64 b) ∧ w'.cell? ⟨w.heap.size, 1, none⟩ = some (.int .i64 m) := by
  have hs : w.heap.size < (w.alloc (.cells #[.int .u64 b, .int .i64 m] 168)).heap.size := by simp
  refine ⟨?_, ?_⟩ <;> rw [h.cell hs, World.cell?_alloc_new] <;> rfl
end Go.Proofs.YtknefjigdlbacaaGreatDoor
