/-
  The table of bounds; the walks of within, Size, TableCell, BoxCell and Whose, the program's and the document's. By an AI agent.
-/
import Derived.Test.YtjmgjgohllihdaaDoorMkBase
import Derived.Test.YtjmgjgohllihdaaDoorChecked
import Derived.WalkKit
import Derived.WalkSpells
import Derived.WalkLawsBesides
import Derived.WalkMore
import Derived.WalkSmall
import Derived.Below
import Derived.Lib.Hide
import Derived.IntWalk
set_option linter.unusedSimpArgs false
set_option linter.unusedVariables false
namespace Go.Proofs.YtjmgjgohllihdaaDoor
open Go.RowKit
/-- The bounds, as cells. -/
def bds : Array Value := #[.int .i64 1, .int .i64 64, .int .i64 0, .int .i64 63, .int .i64 1, .int .i64 64]
/-- The variable holds the bounds. -/
def Bd (w : World) : Prop := w.var? Tryd.prog "sprocket/desk.bounds" = some bds
theorem gBd : Tryd.prog.globalNamed "sprocket/desk.bounds" = some 0 := by kernel_rfl
theorem Bd.lt {w : World} (h : Bd w) : 0 < w.heap.size := by
  unfold Bd World.var? at h
  rw [gBd] at h
  simp only [Option.bind_some] at h
  rcases Nat.lt_or_ge 0 w.heap.size with h' | h'
  · exact h'
  · rw [Array.getElem?_eq_none h'] at h; cases h
theorem Bd.below {w w' : World} (h : Bd w) (hb : Below w.heap.size w w') : Bd w' := by
  have hlt := h.lt
  unfold Bd World.var? at h ⊢
  rw [gBd] at h ⊢
  simp only [Option.bind_some] at h ⊢
  rw [hb.block 0 hlt]
  exact h
theorem Bd.cell {w : World} (h : Bd w) {i : Nat} (hi : i < 6) : w.cell? ⟨0, i, none⟩ = bds[i]? := by
  unfold Bd World.var? at h
  rw [gBd] at h
  simp only [Option.bind_some] at h
  unfold World.cell?
  split at h
  · rename_i e; simp only [e]; cases h; simp
  · cases h
theorem Bd.cells {w : World} (h : Bd w) : w.cell? ⟨0, 0, none⟩ = some (.int .i64 1) ∧ w.cell? ⟨0, 1, none⟩ = some (.int .i64 64) ∧ w.cell? ⟨0, 2, none⟩ = some (.int .i64 0) ∧ w.cell? ⟨0, 3, none⟩ = some (.int .i64 63) ∧ w.cell? ⟨0, 4, none⟩ = some (.int .i64 1) ∧ w.cell? ⟨0, 5, none⟩ = some (.int .i64 64) :=
  ⟨(h.cell (i := 0) (by omega)).trans rfl, (h.cell (i := 1) (by omega)).trans rfl, (h.cell (i := 2) (by omega)).trans rfl, (h.cell (i := 3) (by omega)).trans rfl, (h.cell (i := 4) (by omega)).trans rfl, (h.cell (i := 5) (by omega)).trans rfl⟩
namespace Dk
/-- Between two bounds. -/
def inn (a b n : Int) : Bool := decide (a ≤ n ∧ n ≤ b)
theorem inn_yes {a b n : Int} (h0 : a ≤ n) (h1 : n ≤ b) : inn a b n = true := decide_eq_true ⟨h0, h1⟩
theorem inn_no {a b n : Int} (h : n < a ∨ b < n) : inn a b n = false := decide_eq_false (by omega)
/-- How many cells. -/
def size (n : Int) : Int := if 1 ≤ n ∧ n ≤ 64 then 2 + 2 * n else 0
/-- The cell for a table. -/
def tab (n : Int) : Int := if 0 ≤ n ∧ n ≤ 63 then 2 + 2 * n else -1
/-- The cell for a box. -/
def box (n : Int) : Int := if 0 ≤ n ∧ n ≤ 63 then 3 + 2 * n else -1
/-- Whose. -/
def who (c : Int) : Int := if 2 ≤ c ∧ c ≤ 129 then c / 2 - 1 else -1
def isb (c : Int) : Bool := decide (2 ≤ c ∧ c ≤ 129 ∧ c % 2 = 1)
theorem size_in {n : Int} (h0 : 1 ≤ n) (h1 : n ≤ 64) : size n = 2 + 2 * n := if_pos ⟨h0, h1⟩
theorem size_out {n : Int} (h : n < 1 ∨ 64 < n) : size n = 0 := if_neg (by omega)
theorem tab_in {n : Int} (h0 : 0 ≤ n) (h1 : n ≤ 63) : tab n = 2 + 2 * n := if_pos ⟨h0, h1⟩
theorem tab_out {n : Int} (h : n < 0 ∨ 63 < n) : tab n = -1 := if_neg (by omega)
theorem box_in {n : Int} (h0 : 0 ≤ n) (h1 : n ≤ 63) : box n = 3 + 2 * n := if_pos ⟨h0, h1⟩
theorem box_out {n : Int} (h : n < 0 ∨ 63 < n) : box n = -1 := if_neg (by omega)
theorem who_in {n : Int} (h0 : 2 ≤ n) (h1 : n ≤ 129) : who n = n / 2 - 1 := if_pos ⟨h0, h1⟩
theorem who_out {n : Int} (h : n < 2 ∨ 129 < n) : who n = -1 := if_neg (by omega)
theorem isb_in {n : Int} (h0 : 2 ≤ n) (h1 : n ≤ 129) : isb n = decide (n % 2 = 1) := by
  unfold isb; by_cases h : n % 2 = 1
  · rw [decide_eq_true h]; exact decide_eq_true ⟨h0, h1, h⟩
  · rw [decide_eq_false h]; exact decide_eq_false (by omega)
theorem isb_out {n : Int} (h : n < 2 ∨ 129 < n) : isb n = false := decide_eq_false (by omega)
end Dk
theorem ret_int {k : IntKind} {a b : Int} (h : a = b) : Ending.returned (.int k a) = .returned (.int k b) := by rw [h]
set_option maxRecDepth 100000 in
set_option maxHeartbeats 1000000 in
theorem within_0 (n : Int) (w : World) (h : Bd w) : Calls Tryd.prog 31 #[.int .i64 0, .int .i64 n] w (Same (.bool (Dk.inn 1 64 n)) w) := by
  obtain ⟨c0, c1, c2, c3, c4, c5⟩ := h.cells
  clear h
  by_cases h0 : 1 ≤ n
  · by_cases h1 : n ≤ 64
    · rw [Dk.inn_yes h0 h1]
      go_enter Tryd.func31, Tryd.ntmps31
      go_wp2
      go_ret
      exact ⟨rfl, rfl⟩
    · rw [Dk.inn_no (by omega)]
      go_enter Tryd.func31, Tryd.ntmps31
      go_wp2
      go_ret
      exact ⟨rfl, rfl⟩
  · rw [Dk.inn_no (by omega)]
    go_enter Tryd.func31, Tryd.ntmps31
    go_wp2
    go_ret
    exact ⟨rfl, rfl⟩
set_option maxRecDepth 100000 in
set_option maxHeartbeats 1000000 in
theorem within_1 (n : Int) (w : World) (h : Bd w) : Calls Tryd.prog 31 #[.int .i64 1, .int .i64 n] w (Same (.bool (Dk.inn 0 63 n)) w) := by
  obtain ⟨c0, c1, c2, c3, c4, c5⟩ := h.cells
  clear h
  by_cases h0 : 0 ≤ n
  · by_cases h1 : n ≤ 63
    · rw [Dk.inn_yes h0 h1]
      go_enter Tryd.func31, Tryd.ntmps31
      go_wp2
      go_ret
      exact ⟨rfl, rfl⟩
    · rw [Dk.inn_no (by omega)]
      go_enter Tryd.func31, Tryd.ntmps31
      go_wp2
      go_ret
      exact ⟨rfl, rfl⟩
  · rw [Dk.inn_no (by omega)]
    go_enter Tryd.func31, Tryd.ntmps31
    go_wp2
    go_ret
    exact ⟨rfl, rfl⟩
set_option maxRecDepth 100000 in
set_option maxHeartbeats 1000000 in
theorem within_2 (n : Int) (w : World) (h : Bd w) : Calls Tryd.prog 31 #[.int .i64 2, .int .i64 n] w (Same (.bool (Dk.inn 1 64 n)) w) := by
  obtain ⟨c0, c1, c2, c3, c4, c5⟩ := h.cells
  clear h
  by_cases h0 : 1 ≤ n
  · by_cases h1 : n ≤ 64
    · rw [Dk.inn_yes h0 h1]
      go_enter Tryd.func31, Tryd.ntmps31
      go_wp2
      go_ret
      exact ⟨rfl, rfl⟩
    · rw [Dk.inn_no (by omega)]
      go_enter Tryd.func31, Tryd.ntmps31
      go_wp2
      go_ret
      exact ⟨rfl, rfl⟩
  · rw [Dk.inn_no (by omega)]
    go_enter Tryd.func31, Tryd.ntmps31
    go_wp2
    go_ret
    exact ⟨rfl, rfl⟩
set_option maxRecDepth 100000 in
set_option maxHeartbeats 1000000 in
/-- desk.Size. -/
theorem dsize_any (n : Int) (w : World) (h : Bd w) : Calls Tryd.prog 14 #[.int .i64 n] w (Same (.int .i64 (Dk.size n)) w) := by
  have K := Lib.hid (within_0 n w h)
  clear h
  by_cases h0 : 1 ≤ n ∧ n ≤ 64
  · rw [Dk.inn_yes h0.1 h0.2] at K
    rw [Dk.size_in h0.1 h0.2]
    obtain ⟨h1, h2⟩ := h0
    go_enter Tryd.func14, Tryd.ntmps14
    go_wp2_with fail
    with_reducible refine K.out.mono ?_
    rintro e w1 ⟨rfl, rfl⟩
    go_wp2
    go_ret
    exact ⟨rfl, rfl⟩
  · have h1 : n < 1 ∨ 64 < n := by omega
    rw [Dk.inn_no h1] at K
    rw [Dk.size_out h1]
    clear h0 h1
    go_enter Tryd.func14, Tryd.ntmps14
    go_wp2_with fail
    with_reducible refine K.out.mono ?_
    rintro e w1 ⟨rfl, rfl⟩
    go_wp2
    go_ret
    exact ⟨rfl, rfl⟩
set_option maxRecDepth 100000 in
set_option maxHeartbeats 1000000 in
/-- desk.TableCell. -/
theorem dtable_any (n : Int) (w : World) (h : Bd w) : Calls Tryd.prog 40 #[.int .i64 n] w (Same (.int .i64 (Dk.tab n)) w) := by
  have K := Lib.hid (within_1 n w h)
  clear h
  by_cases h0 : 0 ≤ n ∧ n ≤ 63
  · rw [Dk.inn_yes h0.1 h0.2] at K
    rw [Dk.tab_in h0.1 h0.2]
    obtain ⟨h1, h2⟩ := h0
    go_enter Tryd.func40, Tryd.ntmps40
    go_wp2_with fail
    with_reducible refine K.out.mono ?_
    rintro e w1 ⟨rfl, rfl⟩
    go_wp2
    go_ret
    exact ⟨rfl, rfl⟩
  · have h1 : n < 0 ∨ 63 < n := by omega
    rw [Dk.inn_no h1] at K
    rw [Dk.tab_out h1]
    clear h0 h1
    go_enter Tryd.func40, Tryd.ntmps40
    go_wp2_with fail
    with_reducible refine K.out.mono ?_
    rintro e w1 ⟨rfl, rfl⟩
    go_wp2
    go_ret
    exact ⟨rfl, rfl⟩
set_option maxRecDepth 100000 in
set_option maxHeartbeats 1000000 in
/-- desk.BoxCell. -/
theorem dbox_any (n : Int) (w : World) (h : Bd w) : Calls Tryd.prog 18 #[.int .i64 n] w (Same (.int .i64 (Dk.box n)) w) := by
  have K := Lib.hid (within_1 n w h)
  have T := Lib.hid (dtable_any n w h)
  clear h
  by_cases h0 : 0 ≤ n ∧ n ≤ 63
  · rw [Dk.inn_yes h0.1 h0.2] at K
    rw [Dk.tab_in h0.1 h0.2] at T
    rw [Dk.box_in h0.1 h0.2]
    obtain ⟨h1, h2⟩ := h0
    go_enter Tryd.func18, Tryd.ntmps18
    go_wp2_with fail
    with_reducible refine K.out.mono ?_
    rintro e w1 ⟨rfl, rfl⟩
    go_wp2_with fail
    with_reducible refine T.out.mono ?_
    rintro e w1 ⟨rfl, rfl⟩
    go_wp2
    go_ret
    exact ⟨ret_int (by omega), rfl⟩
  · have h1 : n < 0 ∨ 63 < n := by omega
    rw [Dk.inn_no h1] at K
    rw [Dk.box_out h1]
    clear h0 h1 T
    go_enter Tryd.func18, Tryd.ntmps18
    go_wp2_with fail
    with_reducible refine K.out.mono ?_
    rintro e w1 ⟨rfl, rfl⟩
    go_wp2
    go_ret
    exact ⟨rfl, rfl⟩
/-- What Whose answers. -/
def whoV (c : Int) : Value := .tuple #[.int .i64 (Dk.who c), .bool (Dk.isb c)]
theorem who_bad {c : Int} (h : c < 2 ∨ 129 < c) : whoV c = .tuple #[.int .i64 (-1), .bool false] := by unfold whoV; rw [Dk.who_out h, Dk.isb_out h]
theorem who_tab {t : Int} (h0 : 0 ≤ t) (h1 : t ≤ 63) : whoV (2 + 2 * t) = .tuple #[.int .i64 t, .bool false] := by
  unfold whoV; rw [Dk.who_in (by omega) (by omega), Dk.isb_in (by omega) (by omega), decide_eq_false (by omega), show (2 + 2 * t) / 2 - 1 = t by omega]
theorem who_box {t : Int} (h0 : 0 ≤ t) (h1 : t ≤ 63) : whoV (3 + 2 * t) = .tuple #[.int .i64 t, .bool true] := by
  unfold whoV; rw [Dk.who_in (by omega) (by omega), Dk.isb_in (by omega) (by omega), decide_eq_true (by omega), show (3 + 2 * t) / 2 - 1 = t by omega]
theorem cell_cases (c : Int) : (c < 2 ∨ 129 < c) ∨ (∃ t, 0 ≤ t ∧ t ≤ 63 ∧ c = 2 + 2 * t) ∨ (∃ t, 0 ≤ t ∧ t ≤ 63 ∧ c = 3 + 2 * t) := by
  by_cases h : c < 2 ∨ 129 < c
  · exact .inl h
  · by_cases e : c % 2 = 0
    · exact .inr (.inl ⟨c / 2 - 1, by omega, by omega, by omega⟩)
    · exact .inr (.inr ⟨c / 2 - 1, by omega, by omega, by omega⟩)
theorem s64 (w : World) (h : Bd w) : Calls Tryd.prog 14 #[.int .i64 64] w (Same (.int .i64 130) w) := dsize_any 64 w h
end Go.Proofs.YtjmgjgohllihdaaDoor
