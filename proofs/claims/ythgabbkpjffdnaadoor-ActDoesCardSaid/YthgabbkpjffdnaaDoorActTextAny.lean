/-
  Text and the document's Text, at every act. By an AI agent.
-/
import Derived.Test.YthgabbkpjffdnaaDoorActText
import Derived.Test.YthgabbkpjffdnaaDoorActRefText
set_option linter.unusedSimpArgs false
set_option linter.unusedVariables false
namespace Go.Proofs.YthgabbkpjffdnaaDoor
open Go.RowKit
open Ac (A)
/-- An act whose numbers fit. -/
structure Fits (x : A) : Prop where
  b : x.b < 18446744073709551616
  c0 : -9223372036854775808 ≤ x.c
  c1 : x.c ≤ 9223372036854775807
  o : x.o < 18446744073709551616
  n : x.n < 18446744073709551616
/-- The text of an act, or none. -/
def tx (x : A) : List UInt8 := if Ac.right x then Ac.text x else []
theorem itoa_dec {c : Int} (h : 0 ≤ c) : Lib.itoa c = Lib.decDigits c.toNat := by unfold Lib.itoa; rw [if_neg (by omega)]
theorem dec_len {u : Nat} (h : u < 18446744073709551616) : (Lib.decDigits u).length ≤ 20 := Dt.Dg.dec_len_le u 20 (by omega) (by omega)
theorem right_parts {x : A} (h : Ac.right x = true) : Ac.known x.k = true ∧ 0 ≤ x.c ∧ (x.k = 5 → 0 < x.c) ∧ (Ac.fb x.k = false → x.b = 0) ∧ (Ac.fc x.k = false → x.c = 0) ∧ (Ac.fo x.k = false → x.o = 0) ∧ (Ac.fn x.k = false → x.n = 0) := by
  unfold Ac.right at h
  simp only [Bool.and_eq_true, decide_eq_true_eq, Bool.or_eq_true, beq_iff_eq, Bool.not_eq_true', Bool.and_eq_false_iff, beq_eq_false_iff_ne] at h
  obtain ⟨⟨⟨⟨⟨⟨hk, hc⟩, h5⟩, hb⟩, hc'⟩, ho⟩, hn⟩ := h
  refine ⟨hk, hc, fun e => ?_, fun e => ?_, fun e => ?_, fun e => ?_, fun e => ?_⟩
  · rcases h5 with h5 | h5
    · exact absurd e h5
    · omega
  · rcases hb with h | h
    · exact h
    · rw [e] at h; cases h
  · rcases hc' with h | h
    · exact h
    · rw [e] at h; cases h
  · rcases ho with h | h
    · exact h
    · rw [e] at h; cases h
  · rcases hn with h | h
    · exact h
    · rw [e] at h; cases h
set_option maxRecDepth 100000 in
set_option maxHeartbeats 4000000 in
theorem text_no (x : A) (w : World) (HR : Hid (∀ w, Calls Tryd.prog 10 #[av x] w (Gives (.bool false) w))) : Calls Tryd.prog 22 #[av x] w (Gives (.string ⟨#[]⟩) w) := by
  have HB := Lib.hid (boxed_below w x)
  go_enter Tryd.func22, Tryd.ntmps22
  go_wp2_with fail
  with_reducible refine (HR.out _).mono ?_
  rintro e w1 ⟨rfl, hb⟩
  go_wp2
  go_ret
  exact ⟨rfl, HB.out.trans (hb.mono HB.out.size)⟩
theorem txs_any {x : A} (h : Fits x) (h0 : 0 ≤ x.c) {w : World} (hP : Dt.Pow w) : Txs x w (Lib.decDigits x.b) (Lib.decDigits x.c.toNat) (Lib.decDigits x.o) (Lib.decDigits x.n) := by
  have hb := h.b
  have hc0 := h.c0
  have hc1 := h.c1
  have ho := h.o
  have hn := h.n
  refine ⟨fun w' hw => ?_, fun w' hw => ?_, fun w' hw => ?_, fun w' hw => ?_, ?_, ?_, ?_, ?_⟩
  · have := Dt.show_any (x.b : Int) (by omega) (by omega) w' (hP.below hw); rw [Int.toNat_natCast] at this; exact this
  · have := Dt.print_any x.c h.c0 h.c1 w' (hP.below hw); rw [itoa_dec h0] at this; exact this
  · have := Dt.show_any (x.o : Int) (by omega) (by omega) w' (hP.below hw); rw [Int.toNat_natCast] at this; exact this
  · have := Dt.show_any (x.n : Int) (by omega) (by omega) w' (hP.below hw); rw [Int.toNat_natCast] at this; exact this
  · have := dec_len hb; omega
  · have := dec_len (u := x.c.toNat) (by omega); omega
  · have := dec_len ho; omega
  · have := dec_len hn; omega
theorem rtxs_any {x : A} (h : Fits x) (h0 : 0 ≤ x.c) : RTxs x (Lib.decDigits x.b) (Lib.decDigits x.c.toNat) (Lib.decDigits x.o) (Lib.decDigits x.n) := by
  have hb := h.b
  have hc0 := h.c0
  have hc1 := h.c1
  have ho := h.o
  have hn := h.n
  refine ⟨fun w' => ?_, fun w' => ?_, fun w' => ?_, fun w' => ?_, ?_, ?_, ?_, ?_⟩
  · have := Dt.rshow_any (x.b : Int) (by omega) (by omega) w'; rw [Int.toNat_natCast] at this; exact this
  · have := Dt.rprint_any x.c h.c0 h.c1 w'; rw [itoa_dec h0] at this; exact this
  · have := Dt.rshow_any (x.o : Int) (by omega) (by omega) w'; rw [Int.toNat_natCast] at this; exact this
  · have := Dt.rshow_any (x.n : Int) (by omega) (by omega) w'; rw [Int.toNat_natCast] at this; exact this
  · have := dec_len hb; omega
  · have := dec_len (u := x.c.toNat) (by omega); omega
  · have := dec_len ho; omega
  · have := dec_len hn; omega
/-- ████ Text. ████ -/
theorem text_any (x : A) (h : Fits x) (w : World) (hN : Nm w) (hP : Dt.Pow w) : Calls Tryd.prog 22 #[av x] w (Gives (.string ⟨(tx x).toArray⟩) w) := by
  have K := fun w => right_any x h.c1 w
  unfold tx
  cases hr : Ac.right x with
  | false =>
    rw [hr] at K
    exact text_no x w (Lib.hid K)
  | true =>
    rw [hr] at K
    obtain ⟨hk, h0, -⟩ := right_parts hr
    have F := fun w => fields_any x.k w
    rw [hk] at F
    exact text_yes x.k x.b x.c x.o x.n _ _ _ _ _ _ _ _ w (Lib.hid hk) hN (Lib.hid K) (Lib.hid F) (Lib.hid (txs_any h h0 hP)) _ (Lib.hid ⟨rfl, rfl, rfl, rfl⟩) (Lib.hid rfl)
/-- ████ The document's Text. ████ -/
theorem rtext_any (x : A) (h : Fits x) (w : World) : Calls Tryd.prog 23 #[av x] w (Gives (.string ⟨(tx x).toArray⟩) w) := by
  have K := fun w => rright_any x w
  unfold tx
  cases hr : Ac.right x with
  | false =>
    rw [hr] at K
    exact rtext_no x w (Lib.hid K)
  | true =>
    rw [hr] at K
    obtain ⟨hk, h0, -⟩ := right_parts hr
    have T := rtxs_any h h0
    obtain ⟨k, b, c, o, n⟩ := x
    dsimp only at hk
    rcases Ac.kinds hk with rfl | rfl | rfl | rfl | rfl | rfl | rfl
    · exact rtext_0 b c o n _ _ _ _ w (Lib.hid K) (Lib.hid T) _ (Lib.hid rfl)
    · exact rtext_1 b c o n _ _ _ _ w (Lib.hid K) (Lib.hid T) _ (Lib.hid rfl)
    · exact rtext_2 b c o n _ _ _ _ w (Lib.hid K) (Lib.hid T) _ (Lib.hid rfl)
    · exact rtext_3 b c o n _ _ _ _ w (Lib.hid K) (Lib.hid T) _ (Lib.hid rfl)
    · exact rtext_4 b c o n _ _ _ _ w (Lib.hid K) (Lib.hid T) _ (Lib.hid rfl)
    · exact rtext_5 b c o n _ _ _ _ w (Lib.hid K) (Lib.hid T) _ (Lib.hid rfl)
    · exact rtext_6 b c o n _ _ _ _ w (Lib.hid K) (Lib.hid T) _ (Lib.hid rfl)
end Go.Proofs.YthgabbkpjffdnaaDoor
