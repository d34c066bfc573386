/-
  The walk of MakerActs, where neither text is too long. By an AI agent.
-/
import Derived.Test.YtdhhhkjbpfhkaaaMkActs
import Derived.BigQuiet
set_option linter.unusedSimpArgs false
set_option linter.unusedVariables false
namespace Go.Proofs.Ytdhhhkjbpfhkaaa
open Go.RowKit Go.Maps
open Mm (Mem Blk)
open Ac (A)
theorem getD_take {gs : List Nat} {k : Nat} (hk : k ≠ 0) : (gs.take k).getD 0 0 = gs.getD 0 0 := by
  rw [List.getD_eq_getElem?_getD, List.getD_eq_getElem?_getD, List.getElem?_take, if_pos (by omega)]
theorem take_zero {gs : List Nat} : (gs.take 0).getD 0 0 = 0 := by simp
/-- The tape behind Make, and the maker, tell the same. -/
theorem alike {l gs : List Nat} {k : Nat} : Kr.more l.length k ((gs.take k).getD 0 0) = Kr.more l.length k (gs.getD 0 0) ∧ Kr.act l k ((gs.take k).getD 0 0) = Kr.act l k (gs.getD 0 0) ∧ (Kr.more l.length k (gs.getD 0 0) = false → (gs.take k).getD 0 0 = gs.getD 0 0) := by
  by_cases hk : k = 0
  · subst hk
    exact ⟨rfl, by rw [Kr.act_zero, Kr.act_zero], fun h => by cases h⟩
  · rw [getD_take hk]
    exact ⟨rfl, rfl, fun _ => rfl⟩
theorem up_take (gs : List Nat) (k : Nat) : Kr.up (gs.take k) = (Kr.up gs).take k := by simp [Kr.up]
theorem sl_take {w : World} {B k : Nat} {ad : Option Addr} {gs : List Nat} (h : Sl .u64 w B ad (Kr.up gs)) : Sl .u64 w B ad (Kr.up (gs.take k)) := by
  rw [up_take]
  rcases h with h | ⟨b, off, e, hb, hc⟩
  · exact .inl (by rw [h]; simp)
  · refine .inr ⟨b, off, e, hb, fun j hj => ?_⟩
    rw [List.length_take] at hj
    rw [hc j (by omega), List.getElem_take]
/-- What Make has left on its tape. -/
structure Tape2 (w : World) (t : Nat) (x : A) (m : Bool) : Prop where
  c2 : w.cell? ⟨t, 2, none⟩ = some (.bool m)
  c3 : w.cell? ⟨t, 3, none⟩ = some (.int .i64 x.k)
  c4 : w.cell? ⟨t, 4, none⟩ = some (.int .u64 (x.b : Int))
  c5 : w.cell? ⟨t, 5, none⟩ = some (.int .i64 x.c)
  c6 : w.cell? ⟨t, 6, none⟩ = some (.int .u64 (x.o : Int))
  c7 : w.cell? ⟨t, 7, none⟩ = some (.int .u64 (x.n : Int))
  lt : t < w.heap.size
theorem Tape2.below {w w' : World} {t : Nat} {x : A} {m : Bool} (h : Tape2 w t x m) (hb : Below w.heap.size w w') : Tape2 w' t x m :=
  ⟨(hb.cell (p := ⟨t, 2, none⟩) h.lt).trans h.c2, (hb.cell (p := ⟨t, 3, none⟩) h.lt).trans h.c3, (hb.cell (p := ⟨t, 4, none⟩) h.lt).trans h.c4, (hb.cell (p := ⟨t, 5, none⟩) h.lt).trans h.c5, (hb.cell (p := ⟨t, 6, none⟩) h.lt).trans h.c6, (hb.cell (p := ⟨t, 7, none⟩) h.lt).trans h.c7, Nat.lt_of_lt_of_le h.lt hb.size⟩
/-- Make, on a new tape that holds the first k answers. -/
theorem make_round {B : Nat} {w : World} {cap k : Nat} {ad : Option Addr} {gs : List Nat} (kk vv : ByteArray) (hk16 : kk.size ≤ 16) (hv24 : vv.size ≤ 24) (hs : Sl .u64 w B ad (Kr.up gs)) (hB : B ≤ w.heap.size) (hk : k ≤ gs.length) (hm : gs.length ≤ 1000) :
    Calls Try.prog 10 #[.pointer (some ⟨w.heap.size, 0, none⟩), .string kk, .string vv] (w.alloc (.cells #[.slice ad (k : Nat) cap, .int .i64 0, .bool false, .int .i64 0, .int .u64 0, .int .i64 0, .int .u64 0, .int .u64 0] 36))
      fun e w' => ∃ bk : Nat, e = .returned (.int .u64 (bk : Int)) ∧ Tape2 w' w.heap.size (Kr.act (Kr.bx kk.data.toList vv.data.toList) k (gs.getD 0 0)) (Kr.more (Kr.bx kk.data.toList vv.data.toList).length k (gs.getD 0 0)) ∧ Below w.heap.size w w' ∧ (Kr.more (Kr.bx kk.data.toList vv.data.toList).length k (gs.getD 0 0) = false → bk = gs.getD 0 0) := by
  have hlen : (gs.take k).length = k := by rw [List.length_take]; omega
  have hb : Below w.heap.size w (w.alloc (.cells #[.slice ad k cap, .int .i64 0, .bool false, .int .i64 0, .int .u64 0, .int .i64 0, .int .u64 0, .int .u64 0] 36)) := (Below.refl _ w).alloc (Nat.le_refl _) _
  have hts : Ts w.heap.size (w.alloc (.cells #[.slice ad k cap, .int .i64 0, .bool false, .int .i64 0, .int .u64 0, .int .i64 0, .int .u64 0, .int .u64 0] 36)) w.heap.size ad (gs.take k) cap 0 (ac (Kr.bx kk.data.toList vv.data.toList) ((gs.take k).getD 0 0) (gs.take k).length) := by
    refine ⟨Nat.le_refl _, ?_, ((sl_take hs).mono hB).below hb⟩
    rw [Nat.zero_min, decide_eq_false (by omega), if_neg (by omega), hlen]
    exact heap_alloc_new w _
  refine (rmake_any kk vv hk16 hv24 hts (by omega)).mono ?_
  rintro e w' ⟨rfl, hT, hb'⟩
  generalize Kr.bx kk.data.toList vv.data.toList = l at *
  obtain ⟨a1, a2, a3⟩ := alike (l := l) (gs := gs) (k := k)
  have hz : k = 0 → (gs.take k).getD 0 0 = 0 := fun e => by subst e; exact take_zero
  have ho := hT.own
  rw [hlen] at ho
  rw [cnt_more hz, act_ac hz, a1, a2] at ho
  exact ⟨_, rfl, ⟨ho.c2, ho.c3, ho.c4, ho.c5, ho.c6, ho.c7, ho.lt⟩, hb.trans hb', a3⟩
end Go.Proofs.Ytdhhhkjbpfhkaaa
