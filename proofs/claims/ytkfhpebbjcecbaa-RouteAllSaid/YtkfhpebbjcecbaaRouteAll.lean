/-
  The walk of RouteAll: each group comes once. By an AI agent.
-/
import Derived.Test.YtkfhpebbjcecbaaRouteAwake
import Derived.Deep.RegionHeld3
namespace Go.Proofs.Ytkfhpebbjcecbaa
open Go.RowKit
/-- Marks as cells. -/
def bo (f : Nat → Bool) (n : Nat) : Array Value := ((List.range n).map fun i => Value.bool (f i)).toArray
theorem bo_size (f : Nat → Bool) (n : Nat) : (bo f n).size = n := by simp [bo]
theorem bo_get (f : Nat → Bool) {n i : Nat} (h : i < n) : (bo f n)[i]? = some (.bool (f i)) := by simp [bo, h]
/-- The groups that came among the first k. -/
def came (s n k j : Nat) : Bool := decide (j ∈ Rt.wayTo s n k)
theorem came_zero (s n : Nat) : came s n 0 = fun _ => false := by funext j; simp [came, Rt.wayTo]
theorem came_not {log : Int} {s k : Nat} (h0 : 0 ≤ log) (h1 : log ≤ 9) (hk : k < Rt.grp log) : came s (Rt.grp log) k (Rt.gat s (Rt.grp log) k) = false := decide_eq_false (Rt.gat_new h0 h1 hk)
theorem came_set (s n k m : Nat) : (bo (came s n k) m).setIfInBounds (Rt.gat s n k) (.bool true) = bo (came s n (k + 1)) m := by
  apply Array.ext_getElem?
  intro j
  rw [Array.getElem?_setIfInBounds]
  by_cases hj : j < m
  · by_cases e : Rt.gat s n k = j
    · rw [if_pos e, bo_get _ hj, if_pos (by rw [bo_size]; omega)]
      simp [came, Rt.wayTo_snoc, e]
    · rw [if_neg e, bo_get _ hj, bo_get _ hj]
      have : j ≠ Rt.gat s n k := fun h => e h.symm
      simp [came, Rt.wayTo_snoc, this]
  · by_cases e : Rt.gat s n k = j
    · rw [if_pos e, if_neg (by rw [bo_size]; omega)]; simp [bo, hj]
    · rw [if_neg e]; simp [bo, hj]
theorem heap_setc {w : World} {p : Nat} {c : Array Value} {t : TypeId} {z : Nat × Nat} (h : w.heap[p]? = some (.cells c t z)) (i : Nat) (u : Value) : (w.setCell ⟨p, i, none⟩ u).heap[p]? = some (.cells (c.setIfInBounds i u) t z) := by
  obtain ⟨hlt, hk⟩ := Array.getElem?_eq_some_iff.1 h
  show (w.heap.modify p _)[p]? = _
  rw [Array.getElem?_eq_getElem (by rw [Array.size_modify]; exact hlt), Array.getElem_modify_self, hk]
  rfl
theorem info_bool : (Try.prog.info? 4).map (fun i => (i.zero, i.size, i.bytes)) = some (some (.bool false), 1, 1) := by kernel_rfl
theorem made_bool (n : Nat) : madeCells (Value.bool false).cells n = bo (fun _ => false) n := by
  unfold madeCells bo
  apply Array.ext_getElem?
  intro k
  by_cases h : k < n <;> simp [h, Value.cells, Nat.mod_one]
theorem make_bool (n : Nat) (h : n ≤ 1000000) (W : World) : (Instr.makeSlice 31 (.int .i64 (n : Int)) (.int .i64 (n : Int))).run Try.prog W = .ok (.slice (some ⟨W.heap.size, 0, none⟩) n n) (W.alloc (.cells (bo (fun _ => false) n) 4)) := by
  obtain ⟨i0, hi, hz0, hz1, hz2⟩ := info_parts info_bool
  have hr := run_make (P := Try.prog) W 31 4 i0 (.bool false) Try.underlying31 hi hz0 .i64 .i64 n n (by omega) (Int.le_refl _) (by rw [hz2]; omega) (by omega)
  simp only [Int.toNat_natCast] at hr
  rw [hr, hz1, Nat.mul_one, made_bool]
theorem way_cell {s n k : Nat} (h : k < (asI (Rt.way s n)).length) : (asI (Rt.way s n))[k] = ((Rt.gat s n k : Nat) : Int) := by
  simp [asI, Rt.way, Rt.wayTo]
set_option maxRecDepth 100000 in
set_option maxHeartbeats 4000000 in
/-- RouteAll returns true. -/
theorem all_walk (x log : Int) (w : World) (hx0 : 0 ≤ x) (hx1 : x ≤ 18446744073709551615) (hl0 : 0 ≤ log) (hl1 : log ≤ 255) : Calls Try.prog 4 #[.int .u64 x, .int .u8 log] w (Says true w) := by
  obtain ⟨h, rfl⟩ := Int.eq_ofNat_of_zero_le hx0
  have hh : h ≤ 18446744073709551615 := by omega
  obtain ⟨k0, hk0⟩ : ∃ k0, k0 = log % 10 := ⟨_, rfl⟩
  have j0 : 0 ≤ k0 := by omega
  have j1 : k0 ≤ 9 := by omega
  have hg := Rt.grp_le k0
  have hp := Rt.grp_pos j0 j1
  have H1 := Lib.hid (fun w => groups_any k0 w)
  have hl : (asI (Rt.way (h / 128) (Rt.grp k0))).length = Rt.grp k0 := by rw [asI_len, Rt.way_len]
  have hce : ∀ k (hk : k < (asI (Rt.way (h / 128) (Rt.grp k0))).length), (asI (Rt.way (h / 128) (Rt.grp k0)))[k] = ((Rt.gat (h / 128) (Rt.grp k0) k : Nat) : Int) := fun k hk => way_cell hk
  have hno : ∀ k, k < Rt.grp k0 → came (h / 128) (Rt.grp k0) k (Rt.gat (h / 128) (Rt.grp k0) k) = false := fun k hk => came_not j0 j1 hk
  have H2 := Lib.hid (fun w => lall_600 h hh k0 w)
  have Hl := Lib.hid hl
  have Hce := Lib.hid hce
  have Hno := Lib.hid hno
  have Hk := Lib.hid hk0
  clear hl hce hno hk0 j0 j1
  generalize asI (Rt.way (h / 128) (Rt.grp k0)) = l at H2 Hl Hce
  generalize Rt.grp k0 = m at H1 H2 Hl Hce Hno hg hp
  have mk : ∀ W : World, (Instr.makeSlice 31 (.int .i64 (m : Int)) (.int .i64 (m : Int))).run Try.prog W = .ok (.slice (some ⟨W.heap.size, 0, none⟩) m m) (W.alloc (.cells (bo (fun _ => false) m) 4)) := fun W => make_bool m (by omega) W
  have e1 : ((m : Int) != (m : Int)) = false := by simp
  go_enter Try.func4, Try.ntmps4
  go_wp2_with fail
  rw [← Hk.out]
  with_reducible refine (H1.out _).mono ?_
  rintro e w1 ⟨rfl, rfl⟩
  go_wp2_with fail
  with_reducible refine (H2.out _).mono ?_
  rintro e w2 ⟨A, c, rfl, s2, b2⟩
  go_wp2
  have hB0 : Below w2.heap.size w2 (w2.alloc (.cells (bo (fun _ => false) m) 4)) := (Below.refl _ _).alloc (Nat.le_refl _) _
  go_loopw [9] (fun i wr => ∃ k : Nat, k ≤ m ∧ i = .int .i64 k ∧ Below w2.heap.size w2 wr ∧ wr.heap[w2.heap.size]? = some (.cells (bo (came (h / 128) m k) m) 4 (0, 0))) (fun i _ => m - (intOf i).toNat)
  case atStart => exact ⟨0, by omega, rfl, hB0, by rw [came_zero]; exact World.alloc_heap_new _ _⟩
  case round =>
    obtain ⟨k, hk, rfl, hB, hS⟩ := hrel
    by_cases hlt : k < m
    · rcases s2.below hB with rfl | ⟨b, off, rfl, hb, hc⟩
      · have := Hl.out; simp at this; omega
      have hkl : k < l.length := by rw [Hl.out]; exact hlt
      have g1 := hc k hkl
      rw [Hce.out k hkl] at g1
      have hgl := Rt.gat_lt (s := h / 128) (n := m) (i := k) (by omega)
      have g2 : wr.cell? ⟨w2.heap.size, Rt.gat (h / 128) m k, none⟩ = some (.bool false) := by
        simp only [World.cell?, hS]
        simp [bo_get _ hgl, Hno.out k hlt]
      have g3 : wr.frozen? ⟨w2.heap.size, Rt.gat (h / 128) m k, none⟩ = false := by simp [World.frozen?, hS]
      have hS2 := heap_setc hS (Rt.gat (h / 128) m k) (.bool true)
      rw [came_set] at hS2
      have HS2 := Lib.hid hS2
      clear hS2 hS hc hkl
      generalize Rt.gat (h / 128) m k = g at g1 g2 g3 hgl HS2
      go_wp2
      go_roundw
      case rel => exact ⟨k + 1, by omega, by go_num, hB.setCell (p := ⟨w2.heap.size, g, none⟩) (Nat.le_refl _) _, HS2.out⟩
      case measure => simp [intOf]; omega
    · obtain rfl : k = m := by omega
      rcases s2.below hB with rfl | ⟨b, off, rfl, hb, hc⟩
      · have := Hl.out; simp at this; omega
      have hkl : 0 < l.length := by rw [Hl.out]; exact hp
      have g1 := hc 0 hkl
      rw [Hce.out 0 hkl] at g1
      have hgl := Rt.gat_lt (s := h / 128) (n := k) (i := 0) (by omega)
      have hge : ((Rt.gat (h / 128) k 0 : Nat) : Int) = (h : Int) / 128 % (k : Int) := by
        show ((h / 128 % k : Nat) : Int) = _
        rw [Int.natCast_emod, Int.natCast_ediv]; rfl
      rw [hge] at g1
      have hg0 : 0 ≤ (h : Int) / 128 % (k : Int) := by omega
      have hg1 : (h : Int) / 128 % (k : Int) < (k : Int) := by omega
      have z5 : IntKind.u64.wrap ((h : Int) / 128 % (k : Int)) = (h : Int) / 128 % (k : Int) := u64_wrap_small hg0 (by omega)
      clear hgl hge
      have g1' : wr.cell? ⟨b, off, none⟩ = some (.int .i64 ((h : Int) / 128 % (k : Int))) := by simpa using g1
      have hbl : b < wr.heap.size := Nat.lt_of_lt_of_le hb hB.size
      have HW := Lib.hid (fun w => awake_any w)
      clear hc hkl g1 hS
      have HK : Hid (∀ w' : World, Below wr.heap.size wr w' → w'.cell? ⟨b, off, none⟩ = some (.int .i64 ((h : Int) / 128 % (k : Int)))) := Lib.hid (fun w' hb' => (hb'.cell (p := ⟨b, off, none⟩) hbl).trans g1')
      have B : Hid (Below wr.heap.size wr wr.drew) := Lib.hid (Below.refl _ _).drew
      have z0 : 0 < k := hp
      have z1 : ¬ k = 0 := by omega
      have z2 : (0 : Int) < (k : Int) := by omega
      have z3 : ¬ (k : Int) = 0 := by omega
      have z4 : IntKind.u64.wrap (k : Int) = (k : Int) := u64_wrap_small (by omega) (by omega)
      have q1 : IntKind.u64.wrap ((h : Int) / 128) = (h : Int) / 128 := u64_wrap_small (by omega) (by omega)
      have q2 : ((h : Int) / 128).tmod (k : Int) = (h : Int) / 128 % (k : Int) := Int.tmod_eq_emod_of_nonneg (by omega)
      clear hbl
      go_wp2_with fail
      go_region_held3 (fun w' => w'.cell? ⟨b, off, none⟩ = some (.int .i64 ((h : Int) / 128 % (k : Int))))
        (with_reducible exact HK.out _ B.out)
        (first | (go_at_call 12; (with_reducible refine (HW.out _).mono ?_); rintro e w3 ⟨rfl, b3⟩; have B := Lib.hid (B.out.trans (b3.mono B.out.size)); clear b3) | fail)
      go_wp2
      go_ret
      exact ⟨rfl, below_then b2 (below_then hB B.out)⟩
end Go.Proofs.Ytkfhpebbjcecbaa
