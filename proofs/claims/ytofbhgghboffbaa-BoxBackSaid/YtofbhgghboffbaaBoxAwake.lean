/-
  The walk of awake, and of the comparison of two lists of words. By an AI agent.
-/
import Derived.Test.YtofbhgghboffbaaBoxWords
namespace Go.Proofs.Ytofbhgghboffbaa
open Go.RowKit
set_option maxRecDepth 100000 in
set_option maxHeartbeats 2000000 in
/-- Two slices of words are found the same just if they are. -/
theorem words_eq (xs ys : List Int) (A A' : Option Addr) (c c' : Nat) (w : World) (hl : xs.length ≤ 1000000) (hl' : ys.length ≤ 1000000) (h : Sl .u64 w w.heap.size A xs) (h' : Sl .u64 w w.heap.size A' ys) (t : Bool) (ht : t = true ↔ xs = ys) :
    Calls Try.prog 13 #[.slice A xs.length c, .slice A' ys.length c'] w (Gives (.bool t) w) := by
  by_cases hne : xs.length = ys.length
  · have hne' : ((xs.length : Int) != (ys.length : Int)) = false := by simp [hne]
    have HNE := Lib.hid hne; clear hne
    have HT := Lib.hid ht; clear ht
    go_enter Try.func13, Try.ntmps13
    go_wp2
    go_loopw [5] (fun i wr => ∃ k : Nat, k ≤ xs.length ∧ i = .int .i64 k ∧ Below w.heap.size w wr ∧ ∀ j (h : j < xs.length) (h' : j < ys.length), j < k → xs[j] = ys[j]) (fun i _ => xs.length - (intOf i).toNat)
    case atStart => exact ⟨0, by omega, rfl, Below.refl _ _, fun j _ _ hj => by omega⟩
    case round =>
      obtain ⟨k, hk, rfl, hB, hz⟩ := hrel
      have HZ := Lib.hid hz; clear hz
      by_cases hlt : k < xs.length
      · have hlt' : k < ys.length := by have := HNE.out; omega
        rcases h.below hB with rfl | ⟨b, off, rfl, hb, hc⟩
        · simp at hlt
        rcases h'.below hB with rfl | ⟨b', off', rfl, hb', hc'⟩
        · simp at hlt'
        have g1 := hc k hlt
        have g2 := hc' k hlt'
        clear hc hc'
        by_cases h0 : xs[k] = ys[k]
        · have e1 : (xs[k] != ys[k]) = false := by simp [h0]
          have H0 := Lib.hid h0; clear h0
          go_wp2
          go_region
          all_goals go_wp2
          all_goals go_roundw
          all_goals first | exact ⟨k + 1, by omega, by go_num, hB.drew, fun j hj hj' hjk => (Nat.lt_succ_iff_lt_or_eq.1 hjk).elim (fun a => HZ.out j hj hj' a) (fun e => by subst e; exact H0.out)⟩ | (simp [intOf]; omega)
        · have e1 : (xs[k] != ys[k]) = true := by simp [h0]
          have H0 := Lib.hid h0; clear h0
          have hf : t = false := by
            cases t
            · rfl
            · have e := HT.out.1 rfl
              subst e
              exact absurd rfl H0.out
          subst hf
          go_wp2
          go_region
          all_goals go_wp2
          all_goals go_ret
          all_goals exact ⟨rfl, hB.drew⟩
      · obtain rfl : k = xs.length := by omega
        have hf : t = true := HT.out.2 (List.ext_getElem HNE.out fun j h1 h2 => HZ.out j h1 h2 h1)
        subst hf
        go_wp2
        go_ret
        exact ⟨rfl, hB⟩
  · have hne' : ((xs.length : Int) != (ys.length : Int)) = true := by simp; omega
    have hf : t = false := by
      cases t
      · rfl
      · exact absurd (congrArg List.length (ht.1 rfl)) hne
    subst hf
    clear ht hne
    go_enter Try.func13, Try.ntmps13
    go_wp2
    go_ret
    exact ⟨rfl, Below.refl _ _⟩
theorem box_ex : Bx.box [97] [98, 99] = [513, 97, 25442] := by decide
theorem key_ex : Bx.key [513, 97, 25442] = [97] := by decide
theorem val_ex : Bx.val [513, 97, 25442] = [98, 99] := by decide
theorem size_ex : Bx.size 513 = 3 := by decide
theorem wf_ex : ∀ x ∈ [(513 : Int), 97, 25442], 0 ≤ x ∧ x ≤ 18446744073709551615 := by
  intro x hx
  simp at hx
  omega
/-- A row of three words that the walk has made. -/
theorem sl_three {k : IntKind} {x y z : Int} {w w' : World} {t : TypeId} (h : Below (w.heap.size + 1) (w.alloc (.cells #[.int k x, .int k y, .int k z] t)) w') : Sl k w' w'.heap.size (some ⟨w.heap.size, 0, none⟩) [x, y, z] := by
  have hs := h.size
  refine .inr ⟨w.heap.size, 0, rfl, by simp at hs; omega, fun j hj => ?_⟩
  have hj0 : j = 0 ∨ j = 1 ∨ j = 2 := by simp at hj; omega
  rw [h.cell (p := ⟨w.heap.size, 0 + j, none⟩) (by simp)]
  rcases hj0 with rfl | rfl | rfl <;> simp
set_option maxRecDepth 100000 in
set_option maxHeartbeats 2000000 in
theorem awake_any (w : World) : Calls Try.prog 5 #[] w (Gives (.bool true) w) := by
  have W1 : ∀ w, Calls Try.prog 6 #[.string ⟨#[97]⟩, .string ⟨#[98, 99]⟩] w (BoxOf [513, 97, 25442] w) := fun w => by
    have := words_yes ⟨#[97]⟩ ⟨#[98, 99]⟩ w (by decide) (by decide)
    rw [box_ex] at this
    exact this
  have W2 : ∀ w, Calls Try.prog 6 #[.string ⟨#[49, 50, 51, 52, 53, 54, 55, 56, 57, 48, 49, 50, 51, 52, 53, 54, 55]⟩, .string ⟨#[]⟩] w (Same nobox w) := fun w => words_no _ _ w (by decide) (by decide) (.inl (by decide))
  have R : ∀ w A, Sl .u64 w w.heap.size A [513, 97, 25442] → Calls Try.prog 8 #[.slice A 3 3] w (Gives (.tuple #[.string ⟨#[97]⟩, .string ⟨#[98, 99]⟩]) w) := fun w A h => by
    have := read_any [513, 97, 25442] A 3 w (by decide) wf_ex h
    rw [key_ex, val_ex] at this
    exact this
  have S : ∀ (w : World) A A' c c', Sl .u64 w w.heap.size A [513, 97, 25442] → Sl .u64 w w.heap.size A' [513, 97, 25442] → Calls Try.prog 13 #[.slice A 3 c, .slice A' 3 c'] w (Gives (.bool true) w) := fun w A A' c c' h h' => words_same [513, 97, 25442] A A' c c' w (by decide) h h'
  have Z : ∀ w, Calls Try.prog 15 #[.int .u64 513] w (Same (.int .i64 3) w) := fun w => by
    have := size_any 513 w (by decide) (by decide)
    rwa [size_ex] at this
  have HW1 := Lib.hid W1; clear W1
  have HW2 := Lib.hid W2; clear W2
  have HR := Lib.hid R; clear R
  have HS := Lib.hid S; clear S
  have HZ := Lib.hid Z; clear Z
  go_enter Try.func5, Try.ntmps5
  go_wp2_with fail
  with_reducible refine (HW1.out _).mono ?_
  rintro e w1 ⟨A1, c1, rfl, hsl1, hB1⟩
  go_wp2_with fail
  with_reducible refine (HW2.out _).mono ?_
  rintro e w2 ⟨rfl, rfl⟩
  go_wp2_with fail
  with_reducible refine (HR.out _ _ (sl_three (by simpa using Below.refl _ _))).mono ?_
  rintro e w3 ⟨rfl, hb3⟩
  have hb3' := ((Below.refl _ _).alloc (Nat.le_refl _) _).trans (hb3.mono (by simp))
  have hsl3 := (hsl1.below hb3').mono hb3'.size
  have hB3 : Below w.heap.size w w3 := below_then hB1 hb3'
  clear hb3 hb3' hsl1 hB1
  go_wp2_with fail
  with_reducible refine (HS.out _ _ _ _ _ ?s1 ?s2).mono ?_
  case s1 => exact (hsl3.below ((Below.refl _ _).alloc (Nat.le_refl _) _)).mono (by simp)
  case s2 => exact sl_three (by simpa using Below.refl _ _)
  rintro e w4 ⟨rfl, hb4⟩
  have hB4 : Below w.heap.size w w4 := below_then (hB3.alloc hB3.size _) hb4
  clear hb4 hB3 hsl3
  go_wp2_with fail
  with_reducible refine (HZ.out _).mono ?_
  rintro e w5 ⟨rfl, rfl⟩
  go_wp2
  go_ret
  exact ⟨rfl, hB4⟩
end Go.Proofs.Ytofbhgghboffbaa
