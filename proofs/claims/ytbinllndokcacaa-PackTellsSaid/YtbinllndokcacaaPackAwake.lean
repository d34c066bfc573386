/-
  The walk of awake. By an AI agent.
-/
import Derived.Test.YtbinllndokcacaaPackRef
import Derived.Test.YtbinllndokcacaaPackWords
namespace Go.Proofs.Ytbinllndokcacaa
open Go.RowKit
theorem by1_ab0 : Pk.by1 [25185] 0 = 97 := by decide
theorem by1_ab1 : Pk.by1 [25185] 1 = 98 := by decide
theorem still_ab : Pk.Still [25185] 2 := by
  intro j h1 h2
  have : j < 8 := h2
  have h : j = 2 ∨ j = 3 ∨ j = 4 ∨ j = 5 ∨ j = 6 ∨ j = 7 := by omega
  rcases h with rfl | rfl | rfl | rfl | rfl | rfl <;> decide
theorem good_ab : Pk.Good [25185] 2 := ⟨by decide, by decide, still_ab⟩
theorem bad_ab : ¬ Pk.Good [25185] 1 := fun h => absurd (h.2.2 1 (by decide) (by decide)) (by decide)
theorem txt_ab : Pk.txt [25185] 2 = [97, 98] := by decide
theorem words_ab : Pk.words [97, 98] = [25185] := by decide
theorem wf_ab : ∀ x ∈ [(25185 : Int)], 0 ≤ x ∧ x ≤ 18446744073709551615 := by
  intro x hx
  simp at hx
  omega
theorem sl_one {k : IntKind} {x : Int} {w w' : World} {t : TypeId} (h : Below (w.heap.size + 1) (w.alloc (.cells #[.int k x] t)) w') : Sl k w' w'.heap.size (some ⟨w.heap.size, 0, none⟩) [x] := by
  have hs := h.size
  refine .inr ⟨w.heap.size, 0, rfl, by simp at hs; omega, fun j hj => ?_⟩
  have hj0 : j = 0 := by simpa using hj
  subst hj0
  rw [h.cell (p := ⟨w.heap.size, 0 + 0, none⟩) (by simp)]
  simp
set_option maxRecDepth 100000 in
set_option maxHeartbeats 2000000 in
theorem awake_any (w : World) : Calls Try.prog 5 #[] w (Gives (.bool true) w) := by
  have T2 : ∀ w A, Sl .u64 w w.heap.size A [25185] → Calls Try.prog 6 #[.slice A 1 1, .int .i64 2] w (Gives (.tuple #[.string ⟨#[97, 98]⟩, .bool true]) w) := fun w A h => by
    have := text_good [25185] A 1 2 w (by decide) wf_ab h good_ab
    rw [show (2 : Int).toNat = 2 from rfl, txt_ab] at this
    exact this
  have T1 : ∀ w A, Sl .u64 w w.heap.size A [25185] → Calls Try.prog 6 #[.slice A 1 1, .int .i64 1] w (Gives (.tuple #[.string ⟨#[]⟩, .bool false]) w) := fun w A h => text_bad [25185] A 1 1 w (by decide) wf_ab h (by decide) bad_ab
  have W : ∀ w, Calls Try.prog 9 #[.string ⟨#[97, 98]⟩] w (WordsOf [25185] w) := fun w => by
    have := words_any ⟨#[97, 98]⟩ w (by decide)
    rw [words_ab] at this
    exact this
  have M9 : ∀ w, Calls Try.prog 11 #[.int .i64 9] w (Same (.int .i64 2) w) := fun w => many_any 9 w (by decide) (by decide)
  have M1 : ∀ w, Calls Try.prog 11 #[.int .i64 (-1)] w (Same (.int .i64 0) w) := fun w => many_any (-1) w (by decide) (by decide)
  have S : ∀ (w : World) A A' c c', Sl .u64 w w.heap.size A [25185] → Sl .u64 w w.heap.size A' [25185] → Calls Try.prog 8 #[.slice A 1 c, .slice A' 1 c'] w (Gives (.bool true) w) := fun w A A' c c' h h' => words_same [25185] A A' c c' w (by decide) h h'
  have HT2 := Lib.hid T2; clear T2
  have HT1 := Lib.hid T1; clear T1
  have HW := Lib.hid W; clear W
  have HM9 := Lib.hid M9; clear M9
  have HM1 := Lib.hid M1; clear M1
  have HS := Lib.hid S; clear S
  go_enter Try.func5, Try.ntmps5
  go_wp2_with fail
  with_reducible refine (HT2.out _ _ (sl_one (by simpa using Below.refl _ _))).mono ?_
  rintro e w1 ⟨rfl, hb1⟩
  have hB1 : Below w.heap.size w w1 := below_then ((Below.refl _ _).alloc (Nat.le_refl _) _) hb1
  clear hb1
  go_wp2_with fail
  with_reducible refine (HT1.out _ _ (sl_one (by simpa using Below.refl _ _))).mono ?_
  rintro e w2 ⟨rfl, hb2⟩
  have hB2 : Below w.heap.size w w2 := below_then (hB1.alloc hB1.size _) hb2
  clear hb2 hB1
  go_wp2_with fail
  with_reducible refine (HW.out _).mono ?_
  rintro e w3 ⟨A, c, rfl, hsl, hb3⟩
  have hB3 : Below w.heap.size w w3 := below_then hB2 hb3
  clear hb3 hB2
  go_wp2_with fail
  with_reducible refine (HS.out _ _ _ _ _ ?s1 ?s2).mono ?_
  case s1 => exact (hsl.below ((Below.refl _ _).alloc (Nat.le_refl _) _)).mono (by simp)
  case s2 => exact sl_one (by simpa using Below.refl _ _)
  rintro e w4 ⟨rfl, hb4⟩
  have hB4 : Below w.heap.size w w4 := below_then (hB3.alloc hB3.size _) hb4
  clear hb4 hB3
  go_wp2_with fail
  with_reducible refine (HM9.out _).mono ?_
  rintro e w5 ⟨rfl, rfl⟩
  go_wp2_with fail
  with_reducible refine (HM1.out _).mono ?_
  rintro e w5 ⟨rfl, rfl⟩
  go_wp2
  go_ret
  exact ⟨rfl, hB4⟩
end Go.Proofs.Ytbinllndokcacaa
