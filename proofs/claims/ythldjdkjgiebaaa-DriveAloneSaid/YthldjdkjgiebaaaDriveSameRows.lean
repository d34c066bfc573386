/-
  The walks of the law's same and few. By an AI agent.
-/
import Derived.Test.YthldjdkjgiebaaaDriveSteps
import Derived.Test.YthldjdkjgiebaaaActEq
import Derived.BigQuiet
set_option linter.unusedSimpArgs false
set_option linter.unusedVariables false
namespace Go.Proofs.Ythldjdkjgiebaaa
open Go.RowKit Go.Shelf Go.Maps
open Mm (Mem Blk)
open Ac (A)
theorem neq_same (a0 a1 a2 a3 a4 : Int) (w : World) : (binOp .neq 42 (.agg #[.int .i64 a0, .int .u64 a1, .int .i64 a2, .int .u64 a3, .int .u64 a4]) (.agg #[.int .i64 a0, .int .u64 a1, .int .i64 a2, .int .u64 a3, .int .u64 a4])).run Try.prog w = .ok (.bool false) w := by
  have h := eq_act a0 a1 a2 a3 a4 a0 a1 a2 a3 a4 w
  rw [show eqB a0 a1 a2 a3 a4 a0 a1 a2 a3 a4 = true by simp [eqB]] at h
  rw [run_eql_struct] at h
  rw [run_neq_struct]
  revert h
  cases (Op.equalIn 10000 42 (.agg #[.int .i64 a0, .int .u64 a1, .int .i64 a2, .int .u64 a3, .int .u64 a4]) (.agg #[.int .i64 a0, .int .u64 a1, .int .i64 a2, .int .u64 a3, .int .u64 a4])).run Try.prog w <;> simp [Result.andThen]
theorem rows7_at (ts : List (Int × A × Int)) {i : Nat} (h : i < ts.length) {j : Nat} (hj : j < 7) : (rows7 ts)[i * 7 + j]? = (cs7 ts[i].1 ts[i].2.1 ts[i].2.2)[j]? := by
  induction ts generalizing i with
  | nil => simp at h
  | cons t r ih =>
    have e : rows7 (t :: r) = cs7 t.1 t.2.1 t.2.2 ++ rows7 r := by simp [rows7]
    have hl : (cs7 t.1 t.2.1 t.2.2).length = 7 := rfl
    rw [e]
    cases i with
    | zero => rw [List.getElem?_append_left (by omega)]; simp
    | succ i =>
      rw [List.getElem?_append_right (by omega), hl, show (i + 1) * 7 + j - 7 = i * 7 + j by omega, ih (by simpa using h)]
      simp
/-- The cells of one step. -/
def Seven (w : World) (g i : Nat) (t : Int × A × Int) : Prop := w.cell? ⟨g, i * 7, none⟩ = some (.int .i64 t.1) ∧ w.cell? ⟨g, i * 7 + 1, none⟩ = some (.int .i64 t.2.1.k) ∧ w.cell? ⟨g, i * 7 + 2, none⟩ = some (.int .u64 t.2.1.b) ∧ w.cell? ⟨g, i * 7 + 3, none⟩ = some (.int .i64 t.2.1.c) ∧ w.cell? ⟨g, i * 7 + 4, none⟩ = some (.int .u64 t.2.1.o) ∧ w.cell? ⟨g, i * 7 + 5, none⟩ = some (.int .u64 t.2.1.n) ∧ w.cell? ⟨g, i * 7 + 6, none⟩ = some (.int .u64 t.2.2)
theorem row_seven {w : World} {B : Nat} {ty : TypeId} {v : Value} {ts : List (Int × A × Int)} (h : w.ownsRow B ty 7 v ts.length (rows7 ts)) {i : Nat} (hi : i < ts.length) : ∃ g c, v = .slice (some ⟨g, 0, none⟩) ts.length c ∧ g < w.heap.size ∧ Seven w g i ts[i] := by
  have hlt := h.lt
  rcases h.2 with ⟨_, h0⟩ | ⟨g, cap, cur, rfl, _, hg, hcap, _, hcs, ht⟩
  · omega
  · have key : ∀ j (hj : j < 7), w.cell? ⟨g, i * 7 + j, none⟩ = (cs7 ts[i].1 ts[i].2.1 ts[i].2.2)[j]? := fun j hj => by
      rw [← rows7_at ts hi hj, ← ht, List.getElem?_take, if_pos (by omega)]
      simp [World.cell?, hg]
    exact ⟨g, cap, rfl, (hlt g rfl).2, key 0 (by omega), key 1 (by omega), key 2 (by omega), key 3 (by omega), key 4 (by omega), key 5 (by omega), key 6 (by omega)⟩
theorem row_slice {w : World} {B : Nat} {ty : TypeId} {v : Value} {sz n : Nat} {xs : List Value} (h : w.ownsRow B ty sz v n xs) : ∃ a c, v = .slice a n c := by
  rcases h.2 with ⟨rfl, rfl⟩ | ⟨g, cap, cur, rfl, _⟩
  · exact ⟨none, 0, rfl⟩
  · exact ⟨_, _, rfl⟩
set_option maxRecDepth 100000 in
set_option maxHeartbeats 4000000 in
/-- ████ same. ████ -/
theorem same_any (ts : List (Int × A × Int)) (hn : ts.length ≤ 1000) (B1 B2 : Nat) (v1 v2 : Value) (w : World) (h1 : w.ownsRow B1 63 7 v1 ts.length (rows7 ts)) (h2 : w.ownsRow B2 44 7 v2 ts.length (rows7 ts)) :
    Calls Try.prog 12 #[v1, v2] w (Gives (.bool true) w) := by
  have S1 := fun {i} hi => row_seven h1 (i := i) hi
  have S2 := fun {i} hi => row_seven h2 (i := i) hi
  obtain ⟨a1, c1, rfl⟩ := row_slice h1
  obtain ⟨a2, c2, rfl⟩ := row_slice h2
  obtain ⟨N, hN⟩ : ∃ N, N = ts.length := ⟨_, rfl⟩
  have HC : Hid (∀ (wr : World), Below w.heap.size w wr → ∀ k, k < N → ∃ g1 g2 t, a1 = some ⟨g1, 0, none⟩ ∧ a2 = some ⟨g2, 0, none⟩ ∧ Seven wr g1 k t ∧ Seven wr g2 k t) := Lib.hid (by
    intro wr hB k hk
    rw [hN] at hk
    obtain ⟨g1, d1, e1, l1, s1⟩ := S1 hk
    obtain ⟨g2, d2, e2, l2, s2⟩ := S2 hk
    injection e1 with e1
    injection e2 with e2
    have up : ∀ {g : Nat}, g < w.heap.size → Seven w g k ts[k] → Seven wr g k ts[k] := fun {g} hg ⟨x0, x1, x2, x3, x4, x5, x6⟩ =>
      ⟨(hB.cell (p := ⟨g, _, none⟩) hg).trans x0, (hB.cell (p := ⟨g, _, none⟩) hg).trans x1, (hB.cell (p := ⟨g, _, none⟩) hg).trans x2, (hB.cell (p := ⟨g, _, none⟩) hg).trans x3, (hB.cell (p := ⟨g, _, none⟩) hg).trans x4, (hB.cell (p := ⟨g, _, none⟩) hg).trans x5, (hB.cell (p := ⟨g, _, none⟩) hg).trans x6⟩
    exact ⟨g1, g2, ts[k], e1, e2, up l1 s1, up l2 s2⟩)
  rw [← hN] at hn ⊢
  clear S1 S2 h1 h2 hN
  have hne : ((N : Int) != (N : Int)) = false := by simp
  go_enter Try.func12, Try.ntmps12
  go_wp2
  go_loopw [5] (fun i wr => ∃ k : Nat, k ≤ N ∧ i = .int .i64 k ∧ Below w.heap.size w wr) (fun i _ => N - (intOf i).toNat)
  case atStart => exact ⟨0, by omega, rfl, Below.refl _ _⟩
  case round =>
    obtain ⟨k, hk, rfl, hB⟩ := hrel
    by_cases hlt : k < N
    · obtain ⟨g1, g2, ⟨ti, ⟨tk, tb, tc, tq, tn⟩, tv⟩, rfl, rfl, ⟨x0, x1, x2, x3, x4, x5, x6⟩, ⟨y0, y1, y2, y3, y4, y5, y6⟩⟩ := HC.out wr hB k hlt
      dsimp only at x0 x1 x2 x3 x4 x5 x6 y0 y1 y2 y3 y4 y5 y6
      have q1 := neq_same tk tb tc tq tn
      have e1 : (ti != ti) = false := by simp
      have e2 : (tv != tv) = false := by simp
      have hltZ : (k : Int) < (N : Int) := by omega
      have HB := Lib.hid hB; clear hB
      go_wp2
      go_quiet (fail)
      all_goals go_wp2
      all_goals exact ⟨⟨k + 1, by omega, by go_num, HB.out.trans ((below_drewN wr nq).mono HB.out.size)⟩, by simp [intOf]; omega⟩
    · obtain rfl : k = N := by omega
      go_wp2
      go_ret
      exact ⟨rfl, hB⟩
/-- What few tells: if true, few routines, and few picks. -/
def Few (n m : Nat) (w : World) (e : Ending) (w' : World) : Prop := ∃ b, e = .returned (.bool b) ∧ w = w' ∧ (b = true → n ≤ 8 ∧ m ≤ 120)
set_option maxRecDepth 100000 in
set_option maxHeartbeats 4000000 in
/-- ████ few. ████ -/
theorem few_any (al ap : Option Addr) (n cl m cp : Nat) (hn : n ≤ maxLen) (hm : m ≤ maxLen) (a : Nat → Option Addr) (N c : Nat → Nat) (w : World) (hl : ∀ i, i < n → ∃ b off, al = some ⟨b, off, none⟩ ∧ w.cell? ⟨b, off + i, none⟩ = some (.slice (a i) (N i) (c i))) :
    Calls Try.prog 10 #[.slice al n cl, .slice ap m cp] w (Few n m w) := by
  have hn' : n ≤ 9223372036854775807 := hn
  have hm' : m ≤ 9223372036854775807 := hm
  clear hn hm
  have HL := Lib.hid hl; clear hl
  go_enter Try.func10, Try.ntmps10
  go_wp2
  go_loopw [5, 6] (fun t i wr => ∃ (k : Nat) (z : Int), k ≤ n ∧ t = .int .i64 z ∧ i = .int .i64 k ∧ Hid (w = wr)) (fun _ i _ => n - (intOf i).toNat)
  case atStart => exact ⟨0, 0, by omega, rfl, rfl, Lib.hid rfl⟩
  case round =>
    obtain ⟨k, z, hk, rfl, rfl, HW⟩ := hrel
    have hw := HW.out
    subst hw
    clear HW
    by_cases hlt : k < n
    · obtain ⟨b, off, rfl, hc⟩ := HL.out k hlt
      have hltZ : (k : Int) < (n : Int) := by omega
      have hw1 : wrap64 ((k : Int) + 1) = (k : Int) + 1 := by unfold wrap64; omega
      by_cases hz : z ≤ 60
      · go_wp2
        go_roundw
        case rel => exact ⟨k + 1, _, by omega, rfl, by go_num, Lib.hid (by trivial)⟩
        case measure => simp [intOf]; omega
      · have hzd : decide (z ≤ 60) = false := by simpa using hz
        go_wp2
        all_goals go_ret
        all_goals exact ⟨_, rfl, rfl, by intro h; simp_all⟩
    · obtain rfl : k = n := by omega
      go_wp2
      all_goals go_ret
      all_goals refine ⟨_, rfl, rfl, ?_⟩
      · intro h
        have h2 := of_decide_eq_true h
        omega
      · intro h; cases h
      · intro h; cases h
end Go.Proofs.Ythldjdkjgiebaaa
