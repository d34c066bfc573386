/-
  The walk of the laws' own probe: the fixed answers are given. By an AI agent.
-/
import Derived.Test.YtfbhoakolcolbaaDoorParse
import Derived.Test.YtfbhoakolcolbaaDoorText
namespace Go.Proofs.YtfbhoakolcolbaaDoor
open Go.RowKit
def Says (b : Bool) (w : World) (e : Ending) (w' : World) : Prop := e = .returned (.bool b) ∧ Below w.heap.size w w'
abbrev Two (k : IntKind) (v e : Int) (w : World) (en : Ending) (w' : World) : Prop := en = .returned (.tuple #[.int k v, .int .i64 e]) ∧ Below w.heap.size w w'
theorem aw1 (w : World) : Calls Tryd.prog 6 #[.string ⟨#[45, 48, 55]⟩, .int .i64 (-99), .int .i64 99] w (Two .i64 0 3 w) := by
  have h := parse_any ⟨#[45, 48, 55]⟩ (-99) 99 w (by decide)
  unfold CParse at h
  rw [show Dg.parseV (⟨#[45, 48, 55]⟩ : ByteArray).data.toList (-99) 99 = 0 by decide +kernel, show Dg.parseE (⟨#[45, 48, 55]⟩ : ByteArray).data.toList (-99) 99 = 3 by decide +kernel] at h
  exact h
theorem aw2 (w : World) : Calls Tryd.prog 6 #[.string ⟨#[45, 55]⟩, .int .i64 (-99), .int .i64 99] w (Two .i64 (-7) 0 w) := by
  have h := parse_any ⟨#[45, 55]⟩ (-99) 99 w (by decide)
  unfold CParse at h
  rw [show Dg.parseV (⟨#[45, 55]⟩ : ByteArray).data.toList (-99) 99 = -7 by decide +kernel, show Dg.parseE (⟨#[45, 55]⟩ : ByteArray).data.toList (-99) 99 = 0 by decide +kernel] at h
  exact h
theorem aw5 (w : World) : Calls Tryd.prog 6 #[.string ⟨#[56]⟩, .int .i64 0, .int .i64 7] w (Two .i64 0 5 w) := by
  have h := parse_any ⟨#[56]⟩ 0 7 w (by decide)
  unfold CParse at h
  rw [show Dg.parseV (⟨#[56]⟩ : ByteArray).data.toList 0 7 = 0 by decide +kernel, show Dg.parseE (⟨#[56]⟩ : ByteArray).data.toList 0 7 = 5 by decide +kernel] at h
  exact h
theorem aw3 (w : World) : Calls Tryd.prog 11 #[.string ⟨#[49, 56, 52, 52, 54, 55, 52, 52, 48, 55, 51, 55, 48, 57, 53, 53, 49, 54, 49, 54]⟩] w (Two .u64 0 5 w) := by
  have h := word_any ⟨#[49, 56, 52, 52, 54, 55, 52, 52, 48, 55, 51, 55, 48, 57, 53, 53, 49, 54, 49, 54]⟩ w (by decide)
  unfold Word2 at h
  rw [show Dg.wordV (⟨#[49, 56, 52, 52, 54, 55, 52, 52, 48, 55, 51, 55, 48, 57, 53, 53, 49, 54, 49, 54]⟩ : ByteArray).data.toList 20 = 0 by decide +kernel, show Dg.wordE (⟨#[49, 56, 52, 52, 54, 55, 52, 52, 48, 55, 51, 55, 48, 57, 53, 53, 49, 54, 49, 54]⟩ : ByteArray).data.toList 20 = 5 by decide +kernel] at h
  exact h
theorem aw4 (w : World) : Calls Tryd.prog 11 #[.string ⟨#[49, 56, 52, 52, 54, 55, 52, 52, 48, 55, 51, 55, 48, 57, 53, 53, 49, 54, 49, 53]⟩] w (Two .u64 18446744073709551615 0 w) := by
  have h := word_any ⟨#[49, 56, 52, 52, 54, 55, 52, 52, 48, 55, 51, 55, 48, 57, 53, 53, 49, 54, 49, 53]⟩ w (by decide)
  unfold Word2 at h
  rw [show Dg.wordV (⟨#[49, 56, 52, 52, 54, 55, 52, 52, 48, 55, 51, 55, 48, 57, 53, 53, 49, 54, 49, 53]⟩ : ByteArray).data.toList 20 = 18446744073709551615 by decide +kernel, show Dg.wordE (⟨#[49, 56, 52, 52, 54, 55, 52, 52, 48, 55, 51, 55, 48, 57, 53, 53, 49, 54, 49, 53]⟩ : ByteArray).data.toList 20 = 0 by decide +kernel] at h
  exact h
theorem aw6 (w : World) (hp : Pow w) : Calls Tryd.prog 8 #[.int .i64 (-12)] w fun e w' => e = .returned (.string ⟨#[45, 49, 50]⟩) ∧ Below w.heap.size w w' := by
  have h := print_any (-12) (by decide) (by decide) w hp
  unfold Text at h
  rw [show (Lib.itoa (-12)).toArray = #[45, 49, 50] by decide +kernel] at h
  exact h
theorem aw7 (w : World) (hp : Pow w) : Calls Tryd.prog 13 #[.int .u64 0] w fun e w' => e = .returned (.string ⟨#[48]⟩) ∧ Below w.heap.size w w' := by
  have h := show_any 0 (by decide) (by decide) w hp
  unfold Text at h
  rw [show (Lib.decDigits (Int.toNat 0)).toArray = #[48] by decide +kernel] at h
  exact h
set_option maxRecDepth 100000 in
set_option maxHeartbeats 1000000 in
/-- ████ awake: the fixed answers are given. ████ -/
theorem awake_any (w : World) (hp : Pow w) : Calls Tryd.prog 10 #[] w (Says true w) := by
  have Hp := Lib.hid hp; clear hp
  go_enter Tryd.func10, Tryd.ntmps10
  go_wp2_with fail
  with_reducible refine (aw1 _).mono ?_
  rintro e w1 ⟨rfl, b1⟩
  go_wp2_with fail
  with_reducible refine (aw2 _).mono ?_
  rintro e w2 ⟨rfl, b2⟩
  go_wp2_with fail
  with_reducible refine (aw3 _).mono ?_
  rintro e w3 ⟨rfl, b3⟩
  go_wp2_with fail
  with_reducible refine (aw4 _).mono ?_
  rintro e w4 ⟨rfl, b4⟩
  go_wp2_with fail
  with_reducible refine (aw5 _).mono ?_
  rintro e w5 ⟨rfl, b5⟩
  have c5 := below_then (below_then (below_then (below_then b1 b2) b3) b4) b5
  go_wp2_with fail
  with_reducible refine (aw6 _ (Hp.out.below c5)).mono ?_
  rintro e w6 ⟨rfl, b6⟩
  have c6 := below_then c5 b6
  go_wp2_with fail
  with_reducible refine (aw7 _ (Hp.out.below c6)).mono ?_
  rintro e w7 ⟨rfl, b7⟩
  go_wp2
  go_ret
  exact ⟨rfl, below_then c6 b7⟩
end Go.Proofs.YtfbhoakolcolbaaDoor
