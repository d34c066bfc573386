/-
  The walk of DeskApart: each cell is counted once. By an AI agent.
-/
import Derived.Test.YtinnachndnedlaaDoorDeskRight
import Derived.Deep.RegionHeld3
import Derived.Maps.AppendAt
import Derived.Laws.OwnMore
import Derived.OwnWalk
set_option linter.unusedSimpArgs false
set_option linter.unusedVariables false
namespace Go.Proofs.YtinnachndnedlaaDoor
open Go.RowKit
/-- Counts as cells. -/
def co (f : Nat → Int) (n : Nat) : Array Value := ((List.range n).map fun i => Value.int .i64 (f i)).toArray
theorem co_size (f : Nat → Int) (n : Nat) : (co f n).size = n := by simp [co]
theorem co_get (f : Nat → Int) {n i : Nat} (h : i < n) : (co f n)[i]? = some (.int .i64 (f i)) := by simp [co, h]
/-- How often each cell was given, when the first k threads' were. -/
def cnt (k : Nat) (j : Nat) : Int := if 2 ≤ j ∧ j < 2 + 2 * k then 1 else 0
theorem cnt_zero : cnt 0 = fun _ => 0 := by funext j; unfold cnt; rw [if_neg (by omega)]
theorem cnt_in {k j : Nat} (h0 : 2 ≤ j) (h1 : j < 2 + 2 * k) : cnt k j = 1 := if_pos ⟨h0, h1⟩
theorem cnt_out {k j : Nat} (h : 2 + 2 * k ≤ j) : cnt k j = 0 := if_neg (by omega)
/-- Behind the next thread's first cell, and its second one. -/
def cnt1 (k : Nat) (j : Nat) : Int := if 2 ≤ j ∧ j < 3 + 2 * k then 1 else 0
theorem cnt1_out {k j : Nat} (h : 3 + 2 * k ≤ j) : cnt1 k j = 0 := if_neg (by omega)
theorem co_set1 (k m : Nat) : (co (cnt k) m).setIfInBounds (2 + 2 * k) (.int .i64 1) = co (cnt1 k) m := by
  apply Array.ext_getElem?
  intro j
  rw [Array.getElem?_setIfInBounds]
  by_cases hj : j < m
  · by_cases e : 2 + 2 * k = j
    · subst e
      rw [if_pos rfl, co_get _ hj, if_pos (by rw [co_size]; exact hj)]
      unfold cnt1; rw [if_pos (by omega)]
    · rw [if_neg e, co_get _ hj, co_get _ hj]
      unfold cnt cnt1
      by_cases h : 2 ≤ j ∧ j < 2 + 2 * k
      · rw [if_pos h, if_pos (by omega)]
      · rw [if_neg h, if_neg (by omega)]
  · by_cases e : 2 + 2 * k = j
    · rw [if_pos e, if_neg (by rw [co_size]; omega)]; simp [co, hj]
    · rw [if_neg e]; simp [co, hj]
theorem co_set2 (k m : Nat) : (co (cnt1 k) m).setIfInBounds (3 + 2 * k) (.int .i64 1) = co (cnt (k + 1)) m := by
  apply Array.ext_getElem?
  intro j
  rw [Array.getElem?_setIfInBounds]
  by_cases hj : j < m
  · by_cases e : 3 + 2 * k = j
    · subst e
      rw [if_pos rfl, co_get _ hj, if_pos (by rw [co_size]; exact hj)]
      unfold cnt; rw [if_pos (by omega)]
    · rw [if_neg e, co_get _ hj, co_get _ hj]
      unfold cnt cnt1
      by_cases h : 2 ≤ j ∧ j < 3 + 2 * k
      · rw [if_pos h, if_pos (by omega)]
      · rw [if_neg h, if_neg (by omega)]
  · by_cases e : 3 + 2 * k = j
    · rw [if_pos e, if_neg (by rw [co_size]; omega)]; simp [co, hj]
    · rw [if_neg e]; simp [co, hj]
theorem heap_setc {w : World} {p : Nat} {c : Array Value} {t : TypeId} {z : Nat × Nat} (h : w.heap[p]? = some (.cells c t z)) (i : Nat) (u : Value) : (w.setCell ⟨p, i, none⟩ u).heap[p]? = some (.cells (c.setIfInBounds i u) t z) := by
  obtain ⟨hlt, hk⟩ := Array.getElem?_eq_some_iff.1 h
  show (w.heap.modify p _)[p]? = _
  rw [Array.getElem?_eq_getElem (by rw [Array.size_modify]; exact hlt), Array.getElem_modify_self, hk]
  rfl
theorem info_int : (Tryd.prog.info? 3).map (fun i => (i.zero, i.size, i.bytes)) = some (some (.int .i64 0), 1, 8) := by kernel_rfl
theorem made_int (n : Nat) : madeCells (Value.int .i64 0).cells n = co (fun _ => 0) n := by
  unfold madeCells co
  apply Array.ext_getElem?
  intro k
  by_cases h : k < n <;> simp [h, Value.cells, List.getElem?_replicate, Nat.mod_one]
theorem make_int (n : Nat) (h : n ≤ 1000000) (W : World) : (Instr.makeSlice 31 (.int .i64 (n : Int)) (.int .i64 (n : Int))).run Tryd.prog W = .ok (.slice (some ⟨W.heap.size, 0, none⟩) n n) (W.alloc (.cells (co (fun _ => 0) n) 3)) := by
  obtain ⟨i0, hi, hz0, hz1, hz2⟩ := info_parts info_int
  have hr := run_make (P := Tryd.prog) W 31 3 i0 (.int .i64 0) Tryd.underlying31 hi hz0 .i64 .i64 n n (by omega) (Int.le_refl _) (by rw [hz2]; omega) (by omega)
  simp only [Int.toNat_natCast] at hr
  rw [hr, hz1, Nat.mul_one, made_int]
theorem who_root : whoV 0 = .tuple #[.int .i64 (-1), .bool false] := who_bad (by omega)
theorem who_oldest : whoV 1 = .tuple #[.int .i64 (-1), .bool false] := who_bad (by omega)
set_option maxRecDepth 100000 in
set_option maxHeartbeats 4000000 in
/-- DeskApart returns true. -/
theorem apart_walk (x : Int) (w : World) (h : Bd w) (hx0 : 0 ≤ x) (hx1 : x ≤ 255) : Calls Tryd.prog 4 #[.int .u8 x] w (Says true w) := by
  obtain ⟨n, hn⟩ : ∃ n : Nat, (n : Int) = x % 64 + 1 := ⟨(x % 64 + 1).toNat, by omega⟩
  have n0 : 1 ≤ n := by omega
  have n1 : n ≤ 64 := by omega
  obtain ⟨m, hm⟩ : ∃ m : Nat, m = 2 + 2 * n := ⟨_, rfl⟩
  have hm1 : m ≤ 130 := by omega
  have e1 : x % 64 + 1 = (n : Int) := hn.symm
  have e2 : 2 + 2 * (n : Int) = (m : Int) := by omega
  have Hm := Lib.hid hm; clear hm hn
  have mk := fun W => make_int m (by omega) W
  have HS := Lib.hid (size_any n w h)
  rw [Dk.size_in (by omega) (by omega), e2] at HS
  have e3 : ((m : Int) != (m : Int)) = false := by simp
  have hlt := h.lt
  have Hbd := Lib.hid (fun w' (b : Below w.heap.size w w') => h.below b)
  clear h
  obtain ⟨W, hW⟩ : ∃ W, W = w.alloc (.cells (co (cnt 0) m) 3) := ⟨_, rfl⟩
  have HB0 : Hid (Below w.heap.size w W) := Lib.hid (by rw [hW]; exact (Below.refl _ _).alloc (Nat.le_refl _) _)
  have HP0 : Hid (W.heap[w.heap.size]? = some (.cells (co (cnt 0) m) 3 (0, 0))) := Lib.hid (by rw [hW]; exact heap_alloc_new _ _)
  have mkW : ∀ W, (Instr.makeSlice 31 (.int .i64 (m : Int)) (.int .i64 (m : Int))).run Tryd.prog W = .ok (.slice (some ⟨W.heap.size, 0, none⟩) m m) (W.alloc (.cells (co (cnt 0) m) 3)) := by rw [cnt_zero]; exact mk
  clear mk
  have HSW := Lib.hid (size_any n W (Hbd.out _ HB0.out))
  rw [Dk.size_in (by omega) (by omega), e2] at HSW
  clear HS
  go_enter Tryd.func4, Tryd.ntmps4
  go_wp2_with fail
  rw [← hW]
  with_reducible refine HSW.out.mono ?_
  rintro e w1 ⟨rfl, rfl⟩
  clear hW
  go_wp2
  generalize hp : w.heap.size = p at HB0 HP0 hlt ⊢
  have HPW : Hid (p ≤ p) := Lib.hid (Nat.le_refl p)
  have HQ := Lib.hid hp; clear hp
  have Hbd : Hid (∀ w', Below p w w' → Bd w') := Lib.hid (fun w' b => Hbd.out w' (by rw [HQ.out]; exact b))
  go_loopw [5] (fun i wr => ∃ k : Nat, k ≤ n ∧ i = .int .i64 k ∧ Below p w wr ∧ wr.heap[p]? = some (.cells (co (cnt k) m) 3 (0, 0))) (fun i _ => n - (intOf i).toNat)
  case atStart => exact ⟨0, by omega, rfl, HB0.out, HP0.out⟩
  case round =>
    obtain ⟨k, hk, rfl, hB, hS⟩ := hrel
    by_cases hkn : k < n
    · obtain ⟨a, ha⟩ : ∃ a : Nat, a = 2 + 2 * k := ⟨_, rfl⟩
      obtain ⟨b, hb⟩ : ∃ b : Nat, b = 3 + 2 * k := ⟨_, rfl⟩
      have hm := Hm.out
      have a2 : (2 : Int) ≤ (a : Int) := by omega
      have b2 : (2 : Int) ≤ (b : Int) := by omega
      have am : (a : Int) < (m : Int) := by omega
      have bm : (b : Int) < (m : Int) := by omega
      have am' : a < m := by omega
      have bm' : b < m := by omega
      have hab : b ≠ a := by omega
      have K1 := Lib.hid (table_any k wr (Hbd.out _ hB))
      rw [Dk.tab_in (by omega) (by omega), show 2 + 2 * (k : Int) = (a : Int) by omega] at K1
      have K2 := Lib.hid (box_any k wr (Hbd.out _ hB))
      rw [Dk.box_in (by omega) (by omega), show 3 + 2 * (k : Int) = (b : Int) by omega] at K2
      have g1 : wr.cell? ⟨p, a, none⟩ = some (.int .i64 0) := by
        simp only [World.cell?, hS]
        simp [co_get _ am', cnt_out (k := k) (j := a) (by omega)]
      have f1 : wr.frozen? ⟨p, a, none⟩ = false := by simp [World.frozen?, hS]
      have hS1 := heap_setc hS a (.int .i64 1)
      rw [ha, co_set1 k m, ← ha] at hS1
      have hB1 : Below p w (wr.setCell ⟨p, a, none⟩ (.int .i64 1)) := hB.setCell (p := ⟨p, a, none⟩) (Nat.le_refl _) _
      have g2 : (wr.setCell ⟨p, a, none⟩ (.int .i64 1)).cell? ⟨p, b, none⟩ = some (.int .i64 0) := by
        simp only [World.cell?, hS1]
        simp [co_get _ bm', cnt1_out (k := k) (j := b) (by omega)]
      have f2 : (wr.setCell ⟨p, a, none⟩ (.int .i64 1)).frozen? ⟨p, b, none⟩ = false := by simp [World.frozen?, hS1]
      have hS2 := heap_setc hS1 b (.int .i64 1)
      rw [hb, co_set2 k m, ← hb] at hS2
      have hB2 : Below p w ((wr.setCell ⟨p, a, none⟩ (.int .i64 1)).setCell ⟨p, b, none⟩ (.int .i64 1)) := hB1.setCell (p := ⟨p, b, none⟩) (Nat.le_refl _) _
      have K3 := Lib.hid (whose_any a _ (Hbd.out _ hB2))
      rw [show (a : Int) = 2 + 2 * (k : Int) by omega, who_tab (by omega) (by omega), show 2 + 2 * (k : Int) = (a : Int) by omega] at K3
      have K4 := Lib.hid (whose_any b _ (Hbd.out _ hB2))
      rw [show (b : Int) = 3 + 2 * (k : Int) by omega, who_box (by omega) (by omega), show 3 + 2 * (k : Int) = (b : Int) by omega] at K4
      have HS2 := Lib.hid hS2
      have HB2 := Lib.hid hB2
      have HA := Lib.hid ha
      have HBb := Lib.hid hb
      clear hS hS1 hS2 hB hB1 hB2 ha hb hm
      have k3 : ((k : Int) != (k : Int)) = false := by simp
      go_wp2_with fail
      with_reducible refine K1.out.mono ?_
      rintro e w1 ⟨rfl, rfl⟩
      go_wp2_with fail
      with_reducible refine K2.out.mono ?_
      rintro e w1 ⟨rfl, rfl⟩
      go_wp2_with fail
      with_reducible refine K3.out.mono ?_
      rintro e w1 ⟨rfl, rfl⟩
      go_wp2_with fail
      with_reducible refine K4.out.mono ?_
      rintro e w1 ⟨rfl, rfl⟩
      go_wp2
      go_roundw
      case rel => exact ⟨k + 1, by omega, by go_num, HB2.out, HS2.out⟩
      case measure => simp [intOf]; omega
    · obtain rfl : k = n := by omega
      have hm := Hm.out
      have hc : ∀ i : Nat, 2 ≤ i → i < m → wr.cell? ⟨p, i, none⟩ = some (.int .i64 1) := fun i h0 h1 => by
        simp only [World.cell?, hS]
        simp [co_get _ h1, cnt_in (k := k) (j := i) h0 (by omega)]
      have HC := Lib.hid hc
      have HD := Lib.hid (Hbd.out _ hB)
      have HBw := Lib.hid hB
      have H0 := Lib.hid (whose_any 0 wr HD.out)
      rw [who_root] at H0
      have H1 := Lib.hid (whose_any 1 wr HD.out)
      rw [who_oldest] at H1
      have HW := Lib.hid (awake_any wr HD.out)
      clear hc hS hB hm
      go_wp2
      go_loop [12] (fun i => ∃ j : Nat, 2 ≤ j ∧ j ≤ m ∧ i = .int .i64 j) (fun i => m - (intOf i).toNat)
      case atStart => exact ⟨2, by omega, by omega, rfl⟩
      case round =>
        obtain ⟨j, j2, jm, rfl⟩ := hrel
        by_cases hj : j < m
        · have g1 := HC.out j j2 hj
          go_wp2
          go_round
          case rel => exact ⟨j + 1, by omega, by omega, by go_num⟩
          case measure => simp [intOf]; omega
        · obtain rfl : j = m := by omega
          go_wp2_with fail
          with_reducible refine H0.out.mono ?_
          rintro e w1 ⟨rfl, rfl⟩
          go_wp2_with fail
          with_reducible refine H1.out.mono ?_
          rintro e w1 ⟨rfl, rfl⟩
          go_wp2_with fail
          with_reducible refine HW.out.mono ?_
          rintro e w2 ⟨rfl, b2⟩
          go_wp2
          go_ret
          have := HQ.out
          subst this
          exact ⟨rfl, below_then HBw.out b2⟩
end Go.Proofs.YtinnachndnedlaaDoor
