/-
  A row of words that is sorted in place: how it lies in memory, what a change of it leaves alone; the walks of cmp.isNaN and cmp.Less at words. By an AI agent.
-/
import Derived.Test.YthldjdkjgiebaaaChecked
import Derived.Sort.LotA
import Derived.Sort.LotB
import Derived.Sort.LotC
import Derived.Sort.LotD3
import Derived.Sort.LotD4
import Derived.Sort.LotD5
import Derived.WalkKit
import Derived.WalkSpells
import Derived.WalkLawsBesides
import Derived.WalkMore
import Derived.WalkSmall
import Derived.Below
import Derived.Lib.Hide
import Derived.IntWalk
import Derived.CellFam
import Derived.BigGuard
import Derived.BigCall
import Derived.Deep.Draws
import Derived.Deep.QuietTactic
import Derived.BigQuiet
set_option linter.unusedSimpArgs false
namespace Go.Proofs.Ythldjdkjgiebaaa.S64
open Go.RowKit Go.Sort
def Same (v : Value) (w : World) (e : Ending) (w' : World) : Prop := e = .returned v ∧ w = w'
/-- The row: what lies ahead of it in its block, its words, what lies behind. -/
structure Rw (hd tl : List Value) (blk off : Nat) (w : World) (d : Array Int) : Prop where
  len : hd.length = off
  own : w.heap[blk]? = some (.cells (hd ++ (d.toList.map (Value.int .u64) ++ tl)).toArray 35 (0, 0))
/-- The row holds d; nothing else has turned but for new blocks. -/
structure Pt (hd tl : List Value) (blk off : Nat) (d : Array Int) (w w' : World) : Prop where
  os : w'.os = w.os
  tape : w'.tape = w.tape
  output : w'.output = w.output
  size : w.heap.size ≤ w'.heap.size
  block : ∀ k, k < w.heap.size → k ≠ blk → w'.heap[k]? = w.heap[k]?
  row : Rw hd tl blk off w' d
def Puts (hd tl : List Value) (blk off : Nat) (d : Array Int) (w : World) (e : Ending) (w' : World) : Prop := e = .returned (.tuple #[]) ∧ Pt hd tl blk off d w w'
section
variable {hd tl : List Value} {blk off : Nat} {d d' : Array Int} {w w' w'' : World}
theorem Rw.cell (h : Rw hd tl blk off w d) {t : Nat} (ht : t < d.size) : w.cell? ⟨blk, off + t, none⟩ = some (.int .u64 d[t]!) := by
  have hl := h.len
  subst hl
  have e : (hd ++ (d.toList.map (Value.int .u64) ++ tl))[hd.length + t]? = some (.int .u64 d[t]!) := by
    rw [List.getElem?_append_right (by omega), Nat.add_sub_cancel_left, List.getElem?_append_left (by simpa using ht)]
    simp [ht, getElem!_pos]
  simpa [World.cell?, h.own] using e
theorem Rw.frozen (h : Rw hd tl blk off w d) (t : Nat) : w.frozen? ⟨blk, off + t, none⟩ = false := by simp [World.frozen?, h.own]
theorem Rw.lt (h : Rw hd tl blk off w d) : blk < w.heap.size := (Array.getElem?_eq_some_iff.1 h.own).1
theorem Rw.refl (h : Rw hd tl blk off w d) : Pt hd tl blk off d w w := ⟨rfl, rfl, rfl, Nat.le_refl _, fun _ _ _ => rfl, h⟩
theorem Pt.trans (h : Pt hd tl blk off d w w') (h' : Pt hd tl blk off d' w' w'') : Pt hd tl blk off d' w w'' :=
  ⟨h'.os.trans h.os, h'.tape.trans h.tape, h'.output.trans h.output, Nat.le_trans h.size h'.size, fun k hk hb => (h'.block k (Nat.lt_of_lt_of_le hk h.size) hb).trans (h.block k hk hb), h'.row⟩
theorem Pt.drewN (h : Pt hd tl blk off d w w') (n : Nat) : Pt hd tl blk off d w (w'.drewN n) := ⟨h.os, h.tape, h.output, h.size, h.block, ⟨h.row.len, h.row.own⟩⟩
theorem Pt.drew (h : Pt hd tl blk off d w w') : Pt hd tl blk off d w w'.drew := h.drewN 1
/-- New blocks. -/
theorem Pt.below (h : Pt hd tl blk off d w w') (hb : Below w'.heap.size w' w'') : Pt hd tl blk off d w w'' :=
  ⟨hb.os.trans h.os, hb.tape.trans h.tape, hb.output.trans h.output, Nat.le_trans h.size hb.size, fun k hk hn => (hb.block k (Nat.lt_of_lt_of_le hk h.size)).trans (h.block k hk hn), ⟨h.row.len, (hb.block blk h.row.lt).trans h.row.own⟩⟩
theorem Rw.below (h : Rw hd tl blk off w d) (hb : Below w.heap.size w w') : Rw hd tl blk off w' d := ⟨h.len, (hb.block blk h.lt).trans h.own⟩
theorem heap_setc {w : World} {p : Nat} {c : Array Value} {t : TypeId} {z : Nat × Nat} (h : w.heap[p]? = some (.cells c t z)) (i : Nat) (u : Value) : (w.setCell ⟨p, i, none⟩ u).heap[p]? = some (.cells (c.setIfInBounds i u) t z) := by
  obtain ⟨hlt, hk⟩ := Array.getElem?_eq_some_iff.1 h
  show (w.heap.modify p _)[p]? = _
  rw [Array.getElem?_eq_getElem (by rw [Array.size_modify]; exact hlt), Array.getElem_modify_self, hk]
  rfl
theorem Pt.set (h : Pt hd tl blk off d w w') {i : Nat} (hi : i < d.size) (x : Int) : Pt hd tl blk off (d.setIfInBounds i x) w (w'.setCell ⟨blk, off + i, none⟩ (.int .u64 x)) := by
  refine ⟨h.os, h.tape, h.output, by simpa [World.setCell] using h.size, fun k hk hb => (Below.heap_setCell _ _ _ _ hb).trans (h.block k hk hb), ⟨h.row.len, ?_⟩⟩
  rw [heap_setc h.row.own]
  have hl := h.row.len
  subst hl
  congr 2
  rw [List.setIfInBounds_toArray, List.set_append_right _ _ (by omega), Nat.add_sub_cancel_left, List.set_append_left _ _ (by simpa using hi)]
  congr 1
  simp [List.map_set]
/-- Two words are exchanged. -/
theorem Pt.swap (h : Pt hd tl blk off d w w') {i j : Nat} (hi : i < d.size) (hj : j < d.size) :
    Pt hd tl blk off (swp d i j) w ((w'.setCell ⟨blk, off + i, none⟩ (.int .u64 d[j]!)).setCell ⟨blk, off + j, none⟩ (.int .u64 d[i]!)) :=
  (h.set hi _).set (by simpa using hj) _
end
theorem quiet_of {f : FuncId} {args : Array Value} {w : World} {n : Nat} {v : Value} (h : Calls Try.prog f args (w.drewN n) (Same v (w.drewN n))) : Calls Try.prog f args (w.drewN n) fun e w'' => e = .returned v ∧ ∃ m, w'' = w.drewN m :=
  h.mono fun _ _ ⟨he, hm⟩ => ⟨he, n, hm.symm⟩
set_option maxHeartbeats 1000000 in
theorem nan_any (x : Int) (w : World) : Calls Try.prog 75 #[.int .u64 x] w (Same (.bool false) w) := by
  go_enter Try.func75, Try.ntmps75
  go_wp2
  go_ret
  exact ⟨by simp, rfl⟩
set_option maxHeartbeats 1000000 in
theorem less_any (x y : Int) (w : World) : Calls Try.prog 65 #[.int .u64 x, .int .u64 y] w (Same (.bool (ltInt x y)) w) := by
  have HN := Lib.hid nan_any
  go_enter Try.func65, Try.ntmps65
  go_wp2_with (go_at_call 75; refine (HN.out _ _).mono ?_; rintro e w' ⟨rfl, rfl⟩)
  go_ret
  exact ⟨rfl, rfl⟩
/-- cmp.Less in a region that draws. -/
theorem less_q (w : World) (n : Nat) (x y : Int) : Calls Try.prog 65 #[.int .u64 x, .int .u64 y] (w.drewN n) fun e w'' => e = .returned (.bool (ltInt x y)) ∧ ∃ m, w'' = w.drewN m := quiet_of (less_any x y (w.drewN n))
end Go.Proofs.Ythldjdkjgiebaaa.S64
