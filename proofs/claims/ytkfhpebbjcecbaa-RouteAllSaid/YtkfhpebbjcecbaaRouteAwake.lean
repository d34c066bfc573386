/-
  The walks of the statements' own probe, and of RouteTells. By an AI agent.
-/
import Derived.Test.YtkfhpebbjcecbaaRouteLall
namespace Go.Proofs.Ytkfhpebbjcecbaa
open Go.RowKit
theorem Sl.lit (w : World) (xs : List Int) : Sl (w.alloc (.cells (xs.map (Value.int .i64)).toArray 3)) (w.heap.size + 1) (some ⟨w.heap.size, 0, none⟩) xs := by
  refine .inr ⟨w.heap.size, 0, rfl, by omega, fun j hj => ?_⟩
  rw [World.cell?_alloc_at _ _ _ _ rfl]
  simp [hj]
def Says (b : Bool) (w : World) (e : Ending) (w' : World) : Prop := e = .returned (.bool b) ∧ Below w.heap.size w w'
/-- A list of its own with the numbers xs, n of them. -/
def Lists (xs : List Int) (n : Nat) (w : World) (e : Ending) (w' : World) : Prop := ∃ A c, e = .returned (.slice A n c) ∧ Sl w' w'.heap.size A xs ∧ Below w.heap.size w w'
theorem lists_of {xs : List Int} {n : Nat} (hn : xs.length = n) {w : World} {e : Ending} {w' : World} (h : RowOf xs w e w') : Lists xs n w e w' := by
  obtain ⟨A, c, he, hr, hb⟩ := h
  subst hn
  exact ⟨A, c, he, Sl.of_own hr, hb⟩
/-- Two lists of the same numbers. -/
theorem ints_rows {xs : List Int} {n : Nat} (hn : xs.length = n) (hl : n ≤ 1000) {A A' : Option Addr} {c c' : Nat} {w : World} (h : Sl w w.heap.size A xs) (h' : Sl w w.heap.size A' xs) : Calls Try.prog 9 #[.slice A n c, .slice A' n c'] w (Says true w) := by
  subst hn; exact ints_same xs A A' c c' w (by omega) h h'
theorem below_new {a w : World} {o : Obj} {w' : World} (h : Below a.heap.size a w) (k : Below (w.alloc o).heap.size (w.alloc o) w') : Below a.heap.size a w' := below_then (h.alloc h.size o) k
theorem aw1 (w : World) : Calls Try.prog 10 #[.int .u64 384, .int .i64 2, .int .i64 9] w (Lists [3, 0, 2, 1] 4 w) := by
  have h := lall_any 384 (by decide) 2 9 w
  rw [show asI ((Rt.way (384 / 128) (Rt.grp 2)).take 9) = [3, 0, 2, 1] by decide +kernel] at h
  exact h.mono fun e w' h => lists_of rfl h
theorem aw2 (A : Option Addr) (c : Nat) (w : World) (h : Sl w w.heap.size A [3, 0, 2, 1]) : Calls Try.prog 9 #[.slice A 4 c, .slice (some ⟨w.heap.size, 0, none⟩) 4 4] (w.alloc (.cells #[.int .i64 3, .int .i64 0, .int .i64 2, .int .i64 1] 3)) (Says true (w.alloc (.cells #[.int .i64 3, .int .i64 0, .int .i64 2, .int .i64 1] 3))) := by
  refine ints_rows (xs := [3, 0, 2, 1]) rfl (by decide) ((h.below ((Below.refl _ _).alloc (Nat.le_refl _) _)).mono (by simp)) ?_
  have := Sl.lit w [3, 0, 2, 1]
  simpa using this
theorem aw3 (w : World) : Calls Try.prog 5 #[.int .i64 9] w (Same (.int .i64 512) w) := groups_any 9 w
theorem aw4 (w : World) : Calls Try.prog 5 #[.int .i64 10] w (Same (.int .i64 0) w) := groups_any 10 w
theorem aw5 (w : World) : Calls Try.prog 7 #[.int .u64 0, .int .i64 1, .int .i64 2] w (GivesInt (-1) w) := by
  have h := group_any 0 (by decide) 1 2 w
  rw [show Rt.gp 0 1 2 = -1 by decide +kernel] at h
  exact h
set_option maxRecDepth 100000 in
set_option maxHeartbeats 1000000 in
/-- The probe: the fixed answers are given. -/
theorem awake_any (w : World) : Calls Try.prog 12 #[] w (Says true w) := by
  go_enter Try.func12, Try.ntmps12
  go_wp2_with fail
  with_reducible refine (aw1 _).mono ?_
  rintro e w1 ⟨A, c, rfl, s1, b1⟩
  go_wp2_with fail
  with_reducible refine (aw2 A c w1 s1).mono ?_
  rintro e w2 ⟨rfl, b2⟩
  have c2 := below_new b1 b2
  go_wp2_with fail
  with_reducible refine (aw3 _).mono ?_
  rintro e w3 ⟨rfl, rfl⟩
  go_wp2_with fail
  with_reducible refine (aw4 _).mono ?_
  rintro e w4 ⟨rfl, rfl⟩
  go_wp2_with fail
  with_reducible refine (aw5 _).mono ?_
  rintro e w5 ⟨rfl, b5⟩
  go_wp2
  go_ret
  exact ⟨rfl, below_then c2 b5⟩
theorem take_all (h : Nat) (log : Int) : (Rt.way (h / 128) (Rt.grp log)).take 600 = Rt.way (h / 128) (Rt.grp log) := by
  apply List.take_of_length_le
  rw [Rt.way_len]
  have := Rt.grp_le log
  omega
/-- All groups, as the statements ask for them. -/
theorem lall_600 (h : Nat) (hh : h ≤ 18446744073709551615) (log : Int) (w : World) :
    Calls Try.prog 10 #[.int .u64 (h : Int), .int .i64 log, .int .i64 600] w (Lists (asI (Rt.way (h / 128) (Rt.grp log))) (Rt.grp log) w) := by
  have h5 : Calls Try.prog 10 #[.int .u64 (h : Int), .int .i64 log, .int .i64 600] w (RowOf (asI ((Rt.way (h / 128) (Rt.grp log)).take 600)) w) := lall_any h hh log 600 w
  rw [take_all] at h5
  exact h5.mono fun e w' h => lists_of (by rw [asI_len, Rt.way_len]) h
theorem take_one (h : Nat) (log : Int) : (asI ((Rt.way (h / 128) (Rt.grp log)).take 1)).length = min 1 (Rt.grp log) := by
  rw [asI_len, List.length_take, Rt.way_len]
set_option maxRecDepth 100000 in
set_option maxHeartbeats 1000000 in
/-- RouteTells returns true. -/
theorem tells_walk (x log i : Int) (w : World) (hx0 : 0 ≤ x) (hx1 : x ≤ 18446744073709551615) : Calls Try.prog 3 #[.int .u64 x, .int .i64 log, .int .i64 i] w (Says true w) := by
  obtain ⟨h, rfl⟩ := Int.eq_ofNat_of_zero_le hx0
  have hh : h ≤ 18446744073709551615 := by omega
  have hg := Rt.grp_le log
  have H1 := Lib.hid (fun w => groups_any log w)
  have H2 := Lib.hid (fun w => rgroups_any log w)
  have H3 := Lib.hid (fun w => group_any h hh log i w)
  have H4 := Lib.hid (fun w => rgroup_any h hh log i w)
  have hl : (asI (Rt.way (h / 128) (Rt.grp log))).length = Rt.grp log := by rw [asI_len, Rt.way_len]
  have H5 := Lib.hid (fun w => lall_600 h hh log w)
  have H6 := Lib.hid (fun w => (rall_any h hh log w).mono fun e w' h => lists_of hl h)
  have h7 : ∀ w, Calls Try.prog 10 #[.int .u64 (h : Int), .int .i64 log, .int .i64 1] w (Lists (asI ((Rt.way (h / 128) (Rt.grp log)).take 1)) (min 1 (Rt.grp log)) w) := fun w => (lall_any h hh log 1 w).mono fun e w' h' => lists_of (take_one h log) h'
  have H7 := Lib.hid h7
  have Hl := Lib.hid hl
  clear hh hl hx0 hx1 h7
  generalize asI (Rt.way (h / 128) (Rt.grp log)) = l at H5 H6 Hl
  generalize asI ((Rt.way (h / 128) (Rt.grp log)).take 1) = l1 at H7
  generalize Rt.grp log = m at H1 H2 H5 H6 H7 Hl hg
  generalize Rt.gp h log i = p at H3 H4
  have e1 : ((m : Int) == (m : Int)) = true := by simp
  have e2 : (p == p) = true := by simp
  have e3 : (((min 1 m : Nat) : Int) == (if (m : Int) < 1 then (m : Int) else 1)) = true := by simp; split <;> omega
  obtain ⟨q, hq⟩ : ∃ q, min 1 m = q := ⟨_, rfl⟩
  rw [hq] at H7 e3
  have Hq := Lib.hid hq; clear hq
  go_enter Try.func3, Try.ntmps3
  go_wp2_with fail
  with_reducible refine (H1.out _).mono ?_
  rintro e w1 ⟨rfl, rfl⟩
  go_wp2_with fail
  with_reducible refine (H2.out _).mono ?_
  rintro e w2 ⟨rfl, rfl⟩
  go_wp2_with fail
  with_reducible refine (H3.out _).mono ?_
  rintro e w3 ⟨rfl, b3⟩
  go_wp2_with fail
  with_reducible refine (H4.out _).mono ?_
  rintro e w4 ⟨rfl, rfl⟩
  go_wp2_with fail
  with_reducible refine (H5.out _).mono ?_
  rintro e w5 ⟨A5, c5, rfl, s5, b5⟩
  go_wp2_with fail
  with_reducible refine (H6.out _).mono ?_
  rintro e w6 ⟨A6, c6, rfl, s6, b6⟩
  go_wp2_with fail
  with_reducible refine (ints_rows Hl.out (by omega) ((s5.below b6).mono b6.size) s6).mono ?_
  rintro e w7 ⟨rfl, b7⟩
  go_wp2_with fail
  with_reducible refine (H7.out _).mono ?_
  rintro e w8 ⟨A8, c8, rfl, s8, b8⟩
  go_wp2_with fail
  with_reducible refine (H2.out _).mono ?_
  rintro e w9 ⟨rfl, rfl⟩
  go_wp2_with fail
  all_goals
    with_reducible refine (awake_any _).mono ?_
    rintro e w10 ⟨rfl, b10⟩
    go_wp2
    go_ret
    exact ⟨rfl, below_then (below_then (below_then (below_then (below_then b3 b5) b6) b7) b8) b10⟩
end Go.Proofs.Ytkfhpebbjcecbaa
