/-
  The walks of Holds, Fresh and Frozen, and of the document's; parts compared. By an AI agent.
-/
import Derived.Test.YtddpfpodhkdjjaaTagParts0
set_option linter.unusedSimpArgs false
set_option linter.unusedVariables false
namespace Go.Proofs.Ytddpfpodhkdjjaa
open Go.RowKit
set_option maxRecDepth 100000 in
theorem flds : (Try.prog.fieldsOf 24).toList.map (fun f => (f.name, f.type, f.offset)) = [("Block", 22, 0), ("Mark", 3, 1)] := by kernel_rfl
set_option maxRecDepth 100000 in
set_option maxHeartbeats 1000000 in
/-- Are two parts one? -/
theorem eq_parts (a0 a1 b0 b1 : Int) : ∀ w : World, (binOp .eql 24 (.agg #[.int .u64 a0, .int .i64 a1]) (.agg #[.int .u64 b0, .int .i64 b1])).run Try.prog w = .ok (.bool (a0 == b0 && a1 == b1)) w := fun w => by
  rw [run_eql_struct, run_equalIn_agg _ _ _ _ _ (by kernel_rfl) (by kernel_rfl)]
  rcases hf : (Try.prog.fieldsOf 24).toList with _ | ⟨f0, _ | ⟨f1, _ | ⟨f2, r⟩⟩⟩
  all_goals (have hfl := flds; rw [hf] at hfl; simp at hfl)
  obtain ⟨⟨n0, t0, o0⟩, n1, t1, o1⟩ := hfl
  simp only [Op.eqFields, n0, t0, o0, n1, t1, o1]
  by_cases h0 : a0 = b0 <;> by_cases h1 : a1 = b1 <;>
    simp [go_sem, Try.underlying3, Try.underlying22, Try.isAgg3, Try.isAgg22, h0, h1]
set_option maxHeartbeats 1000000 in
theorem holds_any (x : Int) (w : World) (h0 : 0 ≤ x) (h1 : x ≤ 18446744073709551615) : Calls Try.prog 14 #[.int .u64 x] w (Gives (.bool (Tg.hd x)) w) := by
  have K := Lib.hid fun w => of_any x w h0 h1
  have e : Tg.hd x = ((x / 8 != 0) && (decide (0 < x % 8) && decide (x % 8 < 5))) := by
    unfold Tg.hd
    have a : decide (8 ≤ x) = (x / 8 != 0) := by
      by_cases h : 8 ≤ x
      · have : x / 8 ≠ 0 := by omega
        simp [h, this]
      · have : x / 8 = 0 := by omega
        simp [h, this]
    have b : (decide (1 ≤ x % 8)) = decide (0 < x % 8) := by congr 1
    have c : (decide (x % 8 ≤ 4)) = decide (x % 8 < 5) := by congr 1; simp; omega
    rw [a, b, c]
  rw [e]
  clear e
  generalize x / 8 = b at K ⊢
  generalize x % 8 = m at K ⊢
  rcases c1 : (b != 0) with _ | _
  · go_enter Try.func14, Try.ntmps14
    go_wp2_with fail
    with_reducible refine (K.out _).mono ?_
    rintro e w1 ⟨rfl, hb⟩
    go_wp2
    go_ret
    exact ⟨rfl, hb.alloc hb.size _⟩
  · rcases c2 : (decide (0 < m)) with _ | _
    all_goals
      go_enter Try.func14, Try.ntmps14
      go_wp2_with fail
      with_reducible refine (K.out _).mono ?_
      rintro e w1 ⟨rfl, hb⟩
      go_wp2
      go_ret
      exact ⟨by simp, hb.alloc hb.size _⟩
set_option maxHeartbeats 1000000 in
theorem rholds_any (x : Int) (w : World) (h0 : 0 ≤ x) (h1 : x ≤ 18446744073709551615) : Calls Try.prog 15 #[.int .u64 x] w (Same (.bool (Tg.hd x)) w) := by
  unfold Tg.hd
  rcases c1 : (decide (8 ≤ x)) with _ | _ <;> rcases c2 : (decide (1 ≤ x % 8)) with _ | _
  all_goals
    go_enter Try.func15, Try.ntmps15
    go_wp2
    go_ret
    exact ⟨by simp, rfl⟩
/-- The mark of a word that holds, in the spelling of Fresh. -/
theorem fr_eq (x : Int) : Tg.fr x = (Tg.hd x && ((x % 8 == 1) || (x % 8 == 2))) := by
  unfold Tg.fr
  rcases h : Tg.hd x with _ | _
  · rfl
  · unfold Tg.hd at h
    simp at h
    rw [Bool.true_and, Bool.true_and, Bool.eq_iff_iff]
    simp
    omega
theorem fz_eq (x : Int) : (Tg.hd x && decide (2 < x % 8)) = (Tg.hd x && ((x % 8 == 3) || (x % 8 == 4))) := by
  rcases h : Tg.hd x with _ | _
  · rfl
  · unfold Tg.hd at h
    simp at h
    rw [Bool.true_and, Bool.true_and, Bool.eq_iff_iff]
    simp
    omega
theorem five_eq (x : Int) (h0 : 0 ≤ x) : (x == 5) = (x / 8 == 0 && x % 8 == 5) := by
  rw [Bool.eq_iff_iff]
  simp
  omega
set_option maxHeartbeats 1000000 in
theorem fresh_any (x : Int) (w : World) (h0 : 0 ≤ x) (h1 : x ≤ 18446744073709551615) : Calls Try.prog 16 #[.int .u64 x] w (Gives (.bool (Tg.fr x)) w) := by
  have K := Lib.hid fun w => mark_any x w h0 h1
  have H := Lib.hid fun w => holds_any x w h0 h1
  rw [fr_eq]
  generalize Tg.hd x = b at H ⊢
  generalize x % 8 = m at K ⊢
  cases b <;> rcases c1 : (m == 1) with _ | _
  all_goals
    go_enter Try.func16, Try.ntmps16
    go_wp2_with fail
    with_reducible refine (K.out _).mono ?_
    rintro e w1 ⟨rfl, hb⟩
    go_wp2_with fail
    with_reducible refine (H.out _).mono ?_
    rintro e w2 ⟨rfl, hb2⟩
    go_wp2
    go_ret
    exact ⟨by simp, below_then hb hb2⟩
set_option maxHeartbeats 1000000 in
theorem rfresh_any (x : Int) (w : World) (h0 : 0 ≤ x) (h1 : x ≤ 18446744073709551615) : Calls Try.prog 17 #[.int .u64 x] w (Same (.bool (Tg.fr x)) w) := by
  have H := Lib.hid fun w => rholds_any x w h0 h1
  unfold Tg.fr
  generalize Tg.hd x = b at H ⊢
  cases b
  all_goals
    go_enter Try.func17, Try.ntmps17
    go_wp2_with fail
    with_reducible refine (H.out _).mono ?_
    rintro e w2 ⟨rfl, rfl⟩
    go_wp2
    go_ret
    exact ⟨by simp, rfl⟩
set_option maxHeartbeats 1000000 in
theorem rfrozen_any (x : Int) (w : World) (h0 : 0 ≤ x) (h1 : x ≤ 18446744073709551615) : Calls Try.prog 19 #[.int .u64 x] w (Same (.bool (Tg.fz x)) w) := by
  have H := Lib.hid fun w => rholds_any x w h0 h1
  unfold Tg.fz
  generalize Tg.hd x = b at H ⊢
  rcases c1 : (x == 5) with _ | _
  · cases b
    all_goals
      go_enter Try.func19, Try.ntmps19
      go_wp2_with fail
      with_reducible refine (H.out _).mono ?_
      rintro e w2 ⟨rfl, rfl⟩
      go_wp2
      go_ret
      exact ⟨by simp, rfl⟩
  · go_enter Try.func19, Try.ntmps19
    go_wp2
    go_ret
    exact ⟨by simp, rfl⟩
/-- A pair's box, in a world behind it. -/
theorem box_cells {w w' : World} {b m : Int} (h : Below (w.alloc (.cells #[.int .u64 b, .int .i64 m] 24)).heap.size (w.alloc (.cells #[.int .u64 b, .int .i64 m] 24)) w') : w'.cell? ⟨w.heap.size, 0, none⟩ = some (.int .u64 b) ∧ w'.cell? ⟨w.heap.size, 1, none⟩ = some (.int .i64 m) := by
  have hs : w.heap.size < (w.alloc (.cells #[.int .u64 b, .int .i64 m] 24)).heap.size := by simp
  refine ⟨?_, ?_⟩ <;> rw [h.cell hs, World.cell?_alloc_new] <;> rfl
set_option maxHeartbeats 1000000 in
theorem frozen_any (x : Int) (w : World) (h0 : 0 ≤ x) (h1 : x ≤ 18446744073709551615) : Calls Try.prog 18 #[.int .u64 x] w (Gives (.bool (Tg.fz x)) w) := by
  have K := Lib.hid fun w => of_any x w h0 h1
  have H := Lib.hid fun w => holds_any x w h0 h1
  unfold Tg.fz
  rw [fz_eq, five_eq x h0]
  have q := eq_parts (x / 8) (x % 8) 0 5
  generalize Tg.hd x = b at H ⊢
  generalize x / 8 = u at K q ⊢
  generalize x % 8 = m at K q ⊢
  generalize (u == 0 && m == 5) = z at q ⊢
  cases z
  · cases b <;> rcases c1 : (m == 3) with _ | _
    all_goals
      go_enter Try.func18, Try.ntmps18
      go_wp2_with fail
      with_reducible refine (K.out _).mono ?_
      rintro e w1 ⟨rfl, hb⟩
      go_wp2_with fail
      with_reducible refine (H.out _).mono ?_
      rintro e w2 ⟨rfl, hb2⟩
      have hc := (box_cells hb2).2
      have hb3 := Lib.hid (below_then (hb.alloc hb.size _) hb2)
      clear hb2
      go_wp2
      go_ret
      exact ⟨by simp, hb3.out⟩
  · go_enter Try.func18, Try.ntmps18
    go_wp2_with fail
    with_reducible refine (K.out _).mono ?_
    rintro e w1 ⟨rfl, hb⟩
    go_wp2
    go_ret
    exact ⟨by simp, hb.alloc hb.size _⟩
end Go.Proofs.Ytddpfpodhkdjjaa
