/-
  The walks of changes, change and doKey: an operation on a key. By an AI agent.
-/
import Derived.Test.YtigopifioijjlaaSpecDict
set_option linter.unusedSimpArgs false
namespace Go.Proofs.Ytigopifioijjlaa
open Go.RowKit
open Dc (Pr Rpl)
theorem op_below (w : World) (k : Int) (key val old : ByteArray) : Below w.heap.size w (w.alloc (.cells #[.int .i64 k, .string key, .string val, .string old] 27)) := (Below.refl _ w).alloc (Nat.le_refl _) _
set_option maxHeartbeats 4000000 in
theorem changes_any (k : Int) (key val old : ByteArray) (g : Option ByteArray) (w : World) (hk : 1 ≤ k ∧ k ≤ 7) :
    Calls Try.prog 28 #[.agg #[.int .i64 k, .string key, .string val, .string old], .string (g.getD ⟨#[]⟩), .bool g.isSome] w (Gives (.bool (Dc.didB k old g)) w) := by
  have HB := Lib.hid (op_below w k key val old)
  have hk : k = 1 ∨ k = 2 ∨ k = 3 ∨ k = 4 ∨ k = 5 ∨ k = 6 ∨ k = 7 := by omega
  cases g with
  | none =>
    have e : Dc.didB k old none = (decide (k = 2) || decide (k = 3)) := by
      rcases hk with rfl | rfl | rfl | rfl | rfl | rfl | rfl <;> simp [Dc.didB]
    rw [e]; clear e
    simp only [Option.getD_none, Option.isSome_none]
    rcases hk with rfl | rfl | rfl | rfl | rfl | rfl | rfl
    all_goals
      go_enter Try.func28, Try.ntmps28
      go_wp2
      all_goals go_ret
      all_goals exact ⟨rfl, HB.out⟩
  | some v =>
    simp only [Option.getD_some, Option.isSome_some]
    cases hc : Dc.ke v old
    all_goals
      have hc1 : (v.toList == old.toList) = Dc.ke v old := rfl
      rw [hc] at hc1
      have e : Dc.didB k old (some v) = (decide (k = 2) || decide (k = 4 ∨ k = 6) || (decide (k = 5 ∨ k = 7) && Dc.ke v old)) := by
        rcases hk with rfl | rfl | rfl | rfl | rfl | rfl | rfl <;> simp [Dc.didB]
      rw [e, hc]; clear e hc
      rcases hk with rfl | rfl | rfl | rfl | rfl | rfl | rfl
      all_goals
        go_enter Try.func28, Try.ntmps28
        go_wp2
        all_goals go_ret
        all_goals exact ⟨rfl, HB.out⟩
/-- A change of the map, with no answer. -/
def Goes (B p : Nat) (v : Value) (l : List Pr) (w : World) (e : Ending) (w' : World) : Prop := (∃ r, e = .returned r) ∧ ∃ v', Mp B w' p v' l ∧ Sp p v v' w w'
set_option maxHeartbeats 4000000 in
theorem change_any (B p : Nat) (v : Value) (l : List Pr) (k : Int) (key val old : ByteArray) (w : World) (h : Mp B w p v l) (hl : l.length ≤ 1000000) (hk : 2 ≤ k ∧ k ≤ 7) :
    Calls Try.prog 29 #[.pointer (some ⟨p, 0, none⟩), .agg #[.int .i64 k, .string key, .string val, .string old]] w (Goes B p v (if 6 ≤ k then Dc.del l key else Dc.put l key val) w) := by
  have HB := Lib.hid (op_below w k key val old)
  have HP := Lib.hid (put_any B p v l key val _ (h.below HB.out) hl)
  have HD := Lib.hid (del_any B p v l key _ (h.below HB.out) hl)
  clear h
  have hk : (k = 6 ∨ k = 7) ∨ (k = 2 ∨ k = 3 ∨ k = 4 ∨ k = 5) := by omega
  rcases hk with hk | hk
  · rw [if_pos (by omega)]
    rcases hk with rfl | rfl
    all_goals
      go_enter Try.func29, Try.ntmps29
      go_wp2_with fail
      with_reducible refine HD.out.mono ?_
      rintro e w2 ⟨rfl, u2, hm2, hs2⟩
      go_wp2
      go_end0
      exact ⟨⟨_, rfl⟩, u2, hm2, hs2.pre HB.out⟩
  · rw [if_neg (by omega)]
    rcases hk with rfl | rfl | rfl | rfl
    all_goals
      go_enter Try.func29, Try.ntmps29
      go_wp2_with fail
      with_reducible refine HP.out.mono ?_
      rintro e w2 ⟨rfl, u2, hm2, hs2⟩
      go_wp2
      go_end0
      exact ⟨⟨_, rfl⟩, u2, hm2, hs2.pre HB.out⟩
end Go.Proofs.Ytigopifioijjlaa
