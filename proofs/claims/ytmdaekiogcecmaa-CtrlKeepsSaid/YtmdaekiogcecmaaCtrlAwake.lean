/-
  The walks of the statements' own probe, of CtrlLooks and of CtrlPuts. By an AI agent.
-/
import Derived.Test.YtmdaekiogcecmaaCtrlNext
namespace Go.Proofs.Ytmdaekiogcecmaa
open Go.RowKit
theorem Sl.lit (w : World) (xs : List Int) : Sl (w.alloc (.cells (xs.map (Value.int .i64)).toArray 3)) (w.heap.size + 1) (some ⟨w.heap.size, 0, none⟩) xs := by
  refine .inr ⟨w.heap.size, 0, rfl, by omega, fun j hj => ?_⟩
  rw [World.cell?_alloc_at _ _ _ _ rfl]
  simp [hj]
def Says (b : Bool) (w : World) (e : Ending) (w' : World) : Prop := e = .returned (.bool b) ∧ Below w.heap.size w w'
/-- A list of its own with the one number 1. -/
def One (w : World) (e : Ending) (w' : World) : Prop := ∃ A c, e = .returned (.slice A 1 c) ∧ Sl w' w'.heap.size A [1] ∧ Below w.heap.size w w'
theorem aw1 (w : World) : Calls Try.prog 6 #[.int .u64 129, .int .i64 0, .int .i64 129] w fun e w' => e = .returned (.tuple #[.int .i64 0, .int .i64 3]) ∧ w = w' := by
  have h := next_any 129 0 129 w (by decide) (by decide)
  rw [show Ct.nxp 129 0 129 = 0 by decide +kernel, show Ct.nxc 129 0 129 = 3 by decide +kernel] at h
  exact h
theorem aw2 (w : World) : Calls Try.prog 6 #[.int .u64 129, .int .i64 0, .int .i64 130] w fun e w' => e = .returned (.tuple #[.int .i64 1, .int .i64 1]) ∧ w = w' := by
  have h := next_any 129 0 130 w (by decide) (by decide)
  rw [show Ct.nxp 129 0 130 = 1 by decide +kernel, show Ct.nxc 129 0 130 = 1 by decide +kernel] at h
  exact h
theorem aw3 (w : World) : Calls Try.prog 6 #[.int .u64 9331882296111890817, .int .i64 0, .int .i64 130] w fun e w' => e = .returned (.tuple #[.int .i64 8, .int .i64 0]) ∧ w = w' := by
  have h := next_any 9331882296111890817 0 130 w (by decide) (by decide)
  rw [show Ct.nxp 9331882296111890817 0 130 = 8 by decide +kernel, show Ct.nxc 9331882296111890817 0 130 = 0 by decide +kernel] at h
  exact h
theorem aw4 (w : World) : Calls Try.prog 13 #[.int .u64 129] w (Gives (.int .u64 72340172838076801) w) := by
  have h := seal_any 129 w (by decide) (by decide)
  rw [show Ct.sea 129 = 72340172838076801 by decide +kernel] at h
  exact h
theorem aw5 (w : World) : Calls Try.prog 11 #[.int .u64 0, .int .i64 1, .int .i64 128] w (Same (.int .u64 32768) w) := by
  have h := claim_any 0 1 128 w (by decide) (by decide)
  rw [show Ct.clm 0 1 128 = 32768 by decide +kernel] at h
  exact h
theorem aw6 (w : World) : Calls Try.prog 8 #[.int .u64 1, .int .i64 0, .int .i64 200] w (Same (.int .i64 2) w) := by
  have h := class_any 1 0 200 w (by decide) (by decide)
  rw [show Ct.cls 1 0 200 = 2 by decide +kernel] at h
  exact h
theorem aw7 (w : World) : Calls Try.prog 16 #[.int .u64 33024] w (One w) := by
  have h := claimed_any 33024 w (by decide) (by decide)
  rw [show Ct.cld 33024 8 = [1] by decide +kernel] at h
  exact h.mono fun e w' ⟨A, c, he, hr, hb⟩ => ⟨A, c, he, Sl.of_own hr, hb⟩
theorem aw8 (A : Option Addr) (c : Nat) (w : World) (h : Sl w w.heap.size A [1]) : Calls Try.prog 15 #[.slice A 1 c, .slice (some ⟨w.heap.size, 0, none⟩) 1 1] (w.alloc (.cells #[.int .i64 1] 3)) (Says true (w.alloc (.cells #[.int .i64 1] 3))) := by
  refine ints_same [1] A _ c 1 _ (by decide) ((h.below ((Below.refl _ _).alloc (Nat.le_refl _) _)).mono (by simp)) ?_
  have := Sl.lit w [1]
  simpa using this
theorem below_new {a w : World} {o : Obj} {w' : World} (h : Below a.heap.size a w) (k : Below (w.alloc o).heap.size (w.alloc o) w') : Below a.heap.size a w' := below_then (h.alloc h.size o) k
set_option maxRecDepth 100000 in
set_option maxHeartbeats 1000000 in
/-- The probe: the fixed answers are given. -/
theorem awake_any (w : World) : Calls Try.prog 10 #[] w (Says true w) := by
  go_enter Try.func10, Try.ntmps10
  go_wp2_with fail
  with_reducible refine (aw1 _).mono ?_
  rintro e w1 ⟨rfl, rfl⟩
  go_wp2_with fail
  with_reducible refine (aw2 _).mono ?_
  rintro e w1 ⟨rfl, rfl⟩
  go_wp2_with fail
  with_reducible refine (aw3 _).mono ?_
  rintro e w1 ⟨rfl, rfl⟩
  go_wp2_with fail
  with_reducible refine (aw4 _).mono ?_
  rintro e w4 ⟨rfl, b4⟩
  go_wp2_with fail
  with_reducible refine (aw5 _).mono ?_
  rintro e w5 ⟨rfl, rfl⟩
  go_wp2_with fail
  with_reducible refine (aw6 _).mono ?_
  rintro e w6 ⟨rfl, rfl⟩
  go_wp2_with fail
  with_reducible refine (aw7 _).mono ?_
  rintro e w7 ⟨A, c, rfl, s7, b7⟩
  have c7 := below_then b4 b7
  go_wp2_with fail
  with_reducible refine (aw8 A c w7 s7).mono ?_
  rintro e w8 ⟨rfl, b8⟩
  go_wp2
  go_ret
  exact ⟨rfl, below_new c7 b8⟩
theorem next_two (x a c p q : Int) (h0 : 0 ≤ x) (h1 : x ≤ 18446744073709551615) (hp : Ct.nxp x a c = p) (hq : Ct.nxc x a c = q) (w : World) : Calls Try.prog 6 #[.int .u64 x, .int .i64 a, .int .i64 c] w fun e w' => e = .returned (.tuple #[.int .i64 p, .int .i64 q]) ∧ w = w' := by
  subst hp; subst hq; exact next_any x a c w h0 h1
theorem rnext_two (x a c p q : Int) (h0 : 0 ≤ x) (h1 : x ≤ 18446744073709551615) (hp : Ct.nxp x a c = p) (hq : Ct.nxc x a c = q) (w : World) : Calls Try.prog 7 #[.int .u64 x, .int .i64 a, .int .i64 c] w fun e w' => e = .returned (.tuple #[.int .i64 p, .int .i64 q]) ∧ w = w' := by
  subst hp; subst hq; exact rnext_any x a c w h0 h1
set_option maxRecDepth 100000 in
set_option maxHeartbeats 1000000 in
/-- CtrlLooks returns true. -/
theorem looks_walk (x a c : Int) (w : World) (hx0 : 0 ≤ x) (hx1 : x ≤ 18446744073709551615) : Calls Try.prog 3 #[.int .u64 x, .int .i64 a, .int .i64 c] w (Says true w) := by
  have H1 := Lib.hid (next_two x a c _ _ hx0 hx1 rfl rfl)
  have H2 := Lib.hid (rnext_two x a c _ _ hx0 hx1 rfl rfl)
  have H3 := Lib.hid (fun w => class_any x a c w hx0 hx1)
  have H4 := Lib.hid (fun w => rclass_any x a c w hx0 hx1)
  clear hx0 hx1
  generalize Ct.nxp x a c = p at H1 H2
  generalize Ct.nxc x a c = q at H1 H2
  generalize Ct.cls x a c = r at H3 H4
  have e1 : (p == p) = true := by simp
  have e2 : (q == q) = true := by simp
  have e3 : (r == r) = true := by simp
  go_enter Try.func3, Try.ntmps3
  go_wp2_with fail
  with_reducible refine (H1.out _).mono ?_
  rintro e w1 ⟨rfl, rfl⟩
  go_wp2_with fail
  with_reducible refine (H2.out _).mono ?_
  rintro e w1 ⟨rfl, rfl⟩
  go_wp2_with fail
  with_reducible refine (H3.out _).mono ?_
  rintro e w1 ⟨rfl, rfl⟩
  go_wp2_with fail
  with_reducible refine (H4.out _).mono ?_
  rintro e w1 ⟨rfl, rfl⟩
  go_wp2_with fail
  with_reducible refine (awake_any _).mono ?_
  rintro e w2 ⟨rfl, b2⟩
  go_wp2
  go_ret
  exact ⟨rfl, b2⟩
/-- Two lists of the same numbers. -/
theorem ints_rows {xs : List Int} {n : Nat} (hn : xs.length = n) (hl : n ≤ 8) {A A' : Option Addr} {c c' : Nat} {w : World} (h : Sl w w.heap.size A xs) (h' : Sl w w.heap.size A' xs) : Calls Try.prog 15 #[.slice A n c, .slice A' n c'] w (Says true w) := by
  subst hn; exact ints_same xs A A' c c' w (by omega) h h'
/-- A list of its own with the numbers xs. -/
def Lists (xs : List Int) (n : Nat) (w : World) (e : Ending) (w' : World) : Prop := ∃ A c, e = .returned (.slice A n c) ∧ Sl w' w'.heap.size A xs ∧ Below w.heap.size w w'
theorem lists_of {xs : List Int} {n : Nat} (hn : xs.length = n) {w : World} {e : Ending} {w' : World} (h : RowOf xs w e w') : Lists xs n w e w' := by
  obtain ⟨A, c, he, hr, hb⟩ := h
  subst hn
  exact ⟨A, c, he, Sl.of_own hr, hb⟩
set_option maxRecDepth 100000 in
set_option maxHeartbeats 1000000 in
/-- CtrlPuts returns true. -/
theorem puts_walk (x i c : Int) (w : World) (hx0 : 0 ≤ x) (hx1 : x ≤ 18446744073709551615) : Calls Try.prog 4 #[.int .u64 x, .int .i64 i, .int .i64 c] w (Says true w) := by
  have H1 := Lib.hid (fun w => claim_any x i c w hx0 hx1)
  have H2 := Lib.hid (fun w => rclaim_any x i c w hx0 hx1)
  have H3 := Lib.hid (fun w => seal_any x w hx0 hx1)
  have H4 := Lib.hid (fun w => rseal_any x w hx0 hx1)
  obtain ⟨n, hn⟩ : ∃ n, (Ct.cld x 8).length = n := ⟨_, rfl⟩
  have hn8 : n ≤ 8 := hn ▸ Ct.cld_len x 8
  have H5 := Lib.hid (fun w => (claimed_any x w hx0 hx1).mono fun e w' h => lists_of hn h)
  have H6 := Lib.hid (fun w => (rclaimed_any x w hx0 hx1).mono fun e w' h => lists_of hn h)
  have Hn := Lib.hid hn
  have Hn8 := Lib.hid hn8
  clear hx0 hx1 hn hn8
  generalize Ct.clm x i c = p at H1 H2
  generalize Ct.sea x = q at H3 H4
  generalize Ct.cld x 8 = l at H5 H6 Hn
  have e1 : (p == p) = true := by simp
  have e2 : (q == q) = true := by simp
  go_enter Try.func4, Try.ntmps4
  go_wp2_with fail
  with_reducible refine (H1.out _).mono ?_
  rintro e w1 ⟨rfl, rfl⟩
  go_wp2_with fail
  with_reducible refine (H2.out _).mono ?_
  rintro e w2 ⟨rfl, b2⟩
  go_wp2_with fail
  with_reducible refine (H3.out _).mono ?_
  rintro e w3 ⟨rfl, b3⟩
  go_wp2_with fail
  with_reducible refine (H4.out _).mono ?_
  rintro e w4 ⟨rfl, b4⟩
  go_wp2_with fail
  with_reducible refine (H5.out _).mono ?_
  rintro e w5 ⟨A5, c5, rfl, s5, b5⟩
  go_wp2_with fail
  with_reducible refine (H6.out _).mono ?_
  rintro e w6 ⟨A6, c6, rfl, s6, b6⟩
  go_wp2_with fail
  with_reducible refine (ints_rows Hn.out Hn8.out ((s5.below b6).mono b6.size) s6).mono ?_
  rintro e w7 ⟨rfl, b7⟩
  go_wp2_with fail
  with_reducible refine (awake_any _).mono ?_
  rintro e w8 ⟨rfl, b8⟩
  go_wp2
  go_ret
  exact ⟨rfl, below_then (below_then (below_then (below_then (below_then (below_then b2 b3) b4) b5) b6) b7) b8⟩
end Go.Proofs.Ytmdaekiogcecmaa
