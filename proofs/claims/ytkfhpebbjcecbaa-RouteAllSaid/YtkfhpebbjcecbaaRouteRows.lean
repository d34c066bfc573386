/-
  Lists of numbers, their comparison, and the walks of the document's own Group and All. By an AI agent.
-/
import Derived.Test.YtkfhpebbjcecbaaRouteLoops
namespace Go.Proofs.Ytkfhpebbjcecbaa
open Go.RowKit
/-- A slice's address under which the numbers xs lie, below block B. -/
def Sl (w : World) (B : Nat) (A : Option Addr) (xs : List Int) : Prop :=
  xs = [] ∨ ∃ b off, A = some ⟨b, off, none⟩ ∧ b < B ∧ ∀ j (h : j < xs.length), w.cell? ⟨b, off + j, none⟩ = some (.int .i64 xs[j])
theorem Sl.below {w w' : World} {B : Nat} {A : Option Addr} {xs : List Int} (h : Sl w B A xs) (hb : Below B w w') : Sl w' B A xs := by
  rcases h with h | ⟨b, off, rfl, hlt, hc⟩
  · exact .inl h
  · exact .inr ⟨b, off, rfl, hlt, fun j hj => (hb.cell (p := ⟨b, off + j, none⟩) hlt).trans (hc j hj)⟩
theorem Sl.mono {w : World} {B B' : Nat} {A : Option Addr} {xs : List Int} (h : Sl w B A xs) (hb : B ≤ B') : Sl w B' A xs := by
  rcases h with h | ⟨b, off, rfl, hlt, hc⟩
  · exact .inl h
  · exact .inr ⟨b, off, rfl, by omega, hc⟩
theorem Sl.of_own {w : World} {base n : Nat} {A : Option Addr} {c : Nat} {xs : List Int} (h : w.ownsRow base 3 1 (.slice A n c) n (xs.map (Value.int .i64))) : Sl w w.heap.size A xs := by
  rcases h.2 with ⟨hv, rfl⟩ | ⟨g, cap, cur, hv, _, hg, _⟩
  · have := h.1; simp at this; exact .inl this
  · simp only [Value.slice.injEq] at hv
    obtain ⟨rfl, -, rfl⟩ := hv
    refine .inr ⟨g, 0, rfl, (Array.getElem?_eq_some_iff.1 hg).1, fun j hj => ?_⟩
    have hl := h.1
    simp at hl
    rw [Nat.zero_add, h.cellAt j (by omega)]
    simp [hj]
theorem info_int : (Try.prog.info? 3).map (fun i => (i.zero, i.size, i.bytes)) = some (some (.int .i64 0), 1, 8) := by kernel_rfl
/-- What is handed back is a list of numbers of the call's own. -/
def RowOf (xs : List Int) (w : World) (e : Ending) (w' : World) : Prop := ∃ A c, e = .returned (.slice A xs.length c) ∧ w'.ownsRow w.heap.size 3 1 (.slice A xs.length c) xs.length (xs.map (Value.int .i64)) ∧ Below w.heap.size w w'
theorem rowOf_of {xs : List Int} {w w' : World} {v : Value} (hrow : w'.ownsRow w.heap.size 3 1 v xs.length (xs.map (Value.int .i64))) (hb : Below w.heap.size w w') : RowOf xs w (.returned v) w' := by
  rcases hrow.2 with ⟨rfl, h0⟩ | ⟨g, cap, cur, rfl, _⟩
  · refine ⟨none, 0, ?_, ?_, hb⟩
    · rw [h0]
    · rw [h0] at hrow ⊢; exact hrow
  · exact ⟨_, _, rfl, hrow, hb⟩
theorem rgroup_num1 {q t m : Nat} {z : Int} (hq : q ≤ 512) (ht : t ≤ 130816) (hz : z = 2 * (t : Int)) :
    (wrap64 (wrap64 (q : Int) + wrap64 ((wrap64 z).tdiv 2))).tmod (m : Int) = (((q + t) % m : Nat) : Int) := by
  subst hz
  rw [wrap64_small (x := 2 * (t : Int)) (by omega) (by omega), Int.mul_tdiv_cancel_left _ (by omega), wrap64_small (x := (t : Int)) (by omega) (by omega), wrap64_small (x := (q : Int)) (by omega) (by omega), wrap64_small (x := (q : Int) + (t : Int)) (by omega) (by omega),
    Int.tmod_eq_emod_of_nonneg (by omega), Int.natCast_emod, Int.natCast_add]
theorem rgroup_num {h m k : Nat} (hm : 0 < m) (hg : m ≤ 512) (hk : k < m) :
    (wrap64 (wrap64 ((h : Int) / 128 % (m : Int)) + wrap64 ((wrap64 ((k : Int) * ((k : Int) + 1))).tdiv 2))).tmod (m : Int) = ((Rt.gat (h / 128) m k : Nat) : Int) := by
  have a5 : (h : Int) / 128 % (m : Int) = ((h / 128 % m : Nat) : Int) := by rw [Int.natCast_emod, Int.natCast_ediv]; rfl
  have a6 : h / 128 % m < m := Nat.mod_lt _ hm
  have a9 : Rt.gat (h / 128) m k = (h / 128 % m + Rt.tri k) % m := by unfold Rt.gat; rw [Nat.mod_add_mod]
  have a1 : (k : Int) * ((k : Int) + 1) = 2 * ((Rt.tri k : Nat) : Int) := by
    have h2 := Rt.tri_two k
    have h3 : ((2 * Rt.tri k : Nat) : Int) = ((k * (k + 1) : Nat) : Int) := by rw [h2]
    rw [Int.natCast_mul, Int.natCast_mul, Int.natCast_add] at h3
    exact h3.symm
  rw [a5, a9]
  exact rgroup_num1 (by omega) (Rt.tri_le (by omega)) a1
set_option maxHeartbeats 2000000 in
/-- The document's Group. -/
theorem rgroup_any (h : Nat) (hh : h ≤ 18446744073709551615) (log i : Int) (w : World) : Calls Try.prog 8 #[.int .u64 (h : Int), .int .i64 log, .int .i64 i] w (Same (.int .i64 (Rt.gp h log i)) w) := by
  have hg := Rt.grp_le log
  obtain ⟨m, hm⟩ : ∃ m, m = Rt.grp log := ⟨_, rfl⟩
  by_cases h0 : 0 ≤ i
  · have h0' : ¬ i < 0 := by omega
    by_cases h1 : (m : Int) ≤ i
    · rw [Rt.gp_out (.inr (by omega))]
      rw [← hm] at hg
      have Hm := Lib.hid hm; clear hm
      go_enter Try.func8, Try.ntmps8
      go_wp2_with (go_at_call 6; refine (rgroups_any _ _).mono ?_; rintro e w' ⟨rfl, rfl⟩; rw [← Hm.out])
      go_ret
      exact ⟨rfl, rfl⟩
    · obtain ⟨k, rfl⟩ := Int.eq_ofNat_of_zero_le h0
      rw [Rt.gp_in (by omega)]
      rw [← hm] at hg ⊢
      have Hm := Lib.hid hm; clear hm
      have ht := Rt.tri_le (i := k) (by omega)
      have h2 := Rt.tri_two k
      have e1 : IntKind.u64.wrap (m : Int) = (m : Int) := u64_wrap_small (by omega) (by omega)
      go_enter Try.func8, Try.ntmps8
      go_wp2_with (first | (go_at_call 6; refine (rgroups_any _ _).mono ?_; rintro e w' ⟨rfl, rfl⟩; rw [← Hm.out]) | (go_at_call 14; refine (rstart_any _ _ (by omega) (by omega)).mono ?_; rintro e w' ⟨rfl, rfl⟩))
      go_ret
      refine ⟨ret_int ?_, rfl⟩
      exact rgroup_num (by omega) (by omega) (by omega)
  · have h0' : i < 0 := by omega
    rw [Rt.gp_out (.inl h0')]
    rw [← hm] at hg
    have Hm := Lib.hid hm; clear hm
    go_enter Try.func8, Try.ntmps8
    go_wp2_with (go_at_call 6; refine (rgroups_any _ _).mono ?_; rintro e w' ⟨rfl, rfl⟩; rw [← Hm.out])
    go_ret
    exact ⟨rfl, rfl⟩
/-- Groups as whole numbers. -/
def asI (l : List Nat) : List Int := l.map fun k : Nat => (k : Int)
theorem asI_len (l : List Nat) : (asI l).length = l.length := by simp [asI]
theorem asI_snoc (l : List Nat) (k : Nat) : asI (l ++ [k]) = asI l ++ [(k : Int)] := by simp [asI]
set_option maxRecDepth 100000 in
set_option maxHeartbeats 2000000 in
/-- The document's All. -/
theorem rall_any (h : Nat) (hh : h ≤ 18446744073709551615) (log : Int) (w : World) : Calls Try.prog 11 #[.int .u64 (h : Int), .int .i64 log] w (RowOf (asI (Rt.way (h / 128) (Rt.grp log))) w) := by
  have hg := Rt.grp_le log
  unfold Rt.way
  obtain ⟨m, hm⟩ : ∃ m, m = Rt.grp log := ⟨_, rfl⟩
  have hgp : ∀ k : Nat, k < m → Rt.gp h log k = ((Rt.gat (h / 128) m k : Nat) : Int) := fun k hk => by rw [Rt.gp_in (by omega), hm]
  rw [← hm] at hg ⊢
  have Hm := Lib.hid hm; clear hm
  have Hgp := Lib.hid hgp; clear hgp
  obtain ⟨i0, hi, hz0, hz1, hz2⟩ := info_parts info_int
  have Hz0 := Lib.hid hz0; clear hz0
  have Hz1 := Lib.hid hz1; clear hz1
  have Hz2 := Lib.hid hz2; clear hz2
  have Hi := Lib.hid hi; clear hi
  go_enter Try.func11, Try.ntmps11
  go_wp2
  go_loopw [5, 6] (fun v i wr => ∃ k : Nat, k ≤ m ∧ i = .int .i64 k ∧ wr.ownsRow w.heap.size 3 1 v (asI (Rt.wayTo (h / 128) m k)).length ((asI (Rt.wayTo (h / 128) m k)).map (Value.int .i64)) ∧ Below w.heap.size w wr)
    (fun _ i _ => m - (intOf i).toNat)
  case atStart => exact ⟨0, by omega, rfl, World.ownsRow_lit (size := 1) w #[] 0 (Nat.le_refl _) (by decide) (by decide), (Below.refl _ _).alloc (Nat.le_refl _) _⟩
  case round =>
    obtain ⟨k, hk, rfl, hown, hB⟩ := hrel
    by_cases hlt : k < m
    · have hl : (asI (Rt.wayTo (h / 128) m k)).length = k := by rw [asI_len, Rt.wayTo_len]
      have Hl := Lib.hid hl; clear hl
      go_wp2_with (first | (go_at_call 6; refine (rgroups_any _ _).mono ?_; rintro e w' ⟨rfl, rfl⟩; rw [← Hm.out]) | (go_at_call 8; refine (rgroup_any _ hh _ _ _).mono ?_; rintro e w' ⟨rfl, rfl⟩; rw [Hgp.out _ hlt]) | (at_builtin; refine wpList_append_own _ rfl _ _ 26 rfl w.heap.size 3 i0 (.int .i64 0) 1 8 Try.underlying26 Hi.out Hz0.out Hz1.out Hz2.out rfl (by decide) _ _ _ rfl (hown.alloc _) ⟨wr.heap.size, 0, none⟩ 1 1 [.int .i64 (Rt.gat (h / 128) m k : Nat)] rfl rfl ?c1 ?c2 ?c3 ?c4 ?c5 ?_))
      case c1 => exact cell_one_new _ _ _
      case c2 => simp [Value.oneCell']
      case c3 => rw [Hl.out]; unfold maxLen; simp; omega
      case c4 => have := Hl.out; omega
      case c5 => have := hB.size; simp; omega
      intro v' w1 hown' hgrow _
      have hB1 : Below w.heap.size w w1 := (hB.alloc hB.size _).grown hgrow (by have := hB.size; simp; omega) (fun j e => (hown.lt j e).1)
      have hown2 : w1.ownsRow w.heap.size 3 1 v' (asI (Rt.wayTo (h / 128) m (k + 1))).length ((asI (Rt.wayTo (h / 128) m (k + 1))).map (Value.int .i64)) := by
        rw [Rt.wayTo_snoc, asI_snoc]; simpa using hown'
      clear hown' hgrow hown
      go_wp2
      go_roundw
      case rel => exact ⟨k + 1, by omega, by go_num, hown2, hB1⟩
      case measure => simp [intOf]; omega
    · obtain rfl : k = m := by omega
      go_wp2_with (go_at_call 6; refine (rgroups_any _ _).mono ?_; rintro e w' ⟨rfl, rfl⟩; rw [← Hm.out])
      go_ret
      exact rowOf_of hown hB
set_option maxRecDepth 100000 in
set_option maxHeartbeats 2000000 in
/-- Two slices of the same numbers are found the same. -/
theorem ints_same (xs : List Int) (A A' : Option Addr) (c c' : Nat) (w : World) (hl : xs.length ≤ 9223372036854775807) (h : Sl w w.heap.size A xs) (h' : Sl w w.heap.size A' xs) :
    Calls Try.prog 9 #[.slice A xs.length c, .slice A' xs.length c'] w fun e w' => e = .returned (.bool true) ∧ Below w.heap.size w w' := by
  have hne : ((xs.length : Int) != (xs.length : Int)) = false := by simp
  go_enter Try.func9, Try.ntmps9
  go_wp2
  go_loopw [5] (fun i wr => ∃ k : Nat, k ≤ xs.length ∧ i = .int .i64 k ∧ Below w.heap.size w wr) (fun i _ => xs.length - (intOf i).toNat)
  case atStart => exact ⟨0, by omega, rfl, Below.refl _ _⟩
  case round =>
    obtain ⟨k, hk, rfl, hB⟩ := hrel
    by_cases hlt : k < xs.length
    · rcases h.below hB with rfl | ⟨b, off, rfl, hb, hc⟩
      · simp at hlt
      rcases h'.below hB with rfl | ⟨b', off', rfl, hb', hc'⟩
      · simp at hlt
      have g1 := hc k hlt
      have g2 := hc' k hlt
      have e1 : (xs[k] != xs[k]) = false := by simp
      clear hc hc'
      go_wp2
      go_region
      all_goals go_wp2
      all_goals go_roundw
      all_goals first | exact ⟨k + 1, by omega, by go_num, hB.drew⟩ | (simp [intOf]; omega)
    · obtain rfl : k = xs.length := by omega
      go_wp2
      go_ret
      exact ⟨rfl, hB⟩
end Go.Proofs.Ytkfhpebbjcecbaa
